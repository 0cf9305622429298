/-
  CipherFits holds: how many keys agree, and which plain numbers are possible, are as the reference says, or the error is. No condition.
-/
import Derived.Test.YtkhfkmfofhnmdaaDp
import Derived.Test.YtkhfkmfofhnmdaaCy
import Derived.Test.YtkhfkmfofhnmdaaDf
import Derived.OrdersIn
import Derived.TacticsIn
import Derived.Test.YtkhfkmfofhnmdaaRf
import Derived.Test.YtkhfkmfofhnmdaaDa
import Derived.Test.YtkhfkmfofhnmdaaDb
import Derived.Test.YtkhfkmfofhnmdaaEe
import Derived.Test.YtkhfkmfofhnmdaaDo
import Derived.Test.YtkhfkmfofhnmdaaEf
import Derived.Deep.CutBlock
import Derived.Test.YtkhfkmfofhnmdaaEt
namespace Go.Proofs.Ytkhfkmfofhnmdaa
open Go.RowKit Go.Shelf
attribute [local go_sem] Oper.semAt_some

/-- The error of codes and guesses, the book being valid. -/
def askF (b : Bk) (codes : List Int) (gs : List Gs) : Int := if 10 < codes.length ∨ 6 < gs.length then 3 else if codes.all (fun x => belowB x b.n) = false ∨ gs.all (guessB b codes) = false then 2 else 0
theorem guessB_in (b : Bk) (codes : List Int) (x : Gs) : guessB b codes x = (inB 0 ((codes.length : Int) - 1) x.a && inB 0 (b.n - 1) x.p) := by
  rw [inB_below, inB_below]
  rfl

set_option maxRecDepth 100000 in
set_option maxHeartbeats 1500000 in
theorem AskFault_any (v1 v2 v3 v : Value) (b : Bk) (codes : List Int) (gs : List Gs) (w : World) (hok : BookOK b) (hL : BookAt w v1 v2 b) (hc : IntsAt w v3 codes) (hl : RowsAt w v 2 Gs.cells gs) :
    Calls Try.prog 80 #[.agg #[iv b.n, iv b.w, v1, v2], v3, v] w fun e w' => e = .returned (iv (askF b codes gs)) ∧ Below w.heap.size w w' := by
  have hn0 := hok.n1
  have hn1 := hok.n2
  obtain ⟨hk8, A1, cap1, rfl, _, _⟩ := hL.ks.form
  obtain ⟨hd8, A2, cap2, rfl, _, _⟩ := hL.ds.form
  obtain ⟨hc8, A4, cap4, rfl, _, _⟩ := hc.form
  obtain ⟨_, A3, cap3, rfl, _, _⟩ := hl.form
  have HL := Lib.hid hl
  have HV := Lib.hid hc
  clear hL hl hc hok
  have N0 := Box.new (w := w) (t := 25) (cs := #[iv b.n, iv b.w, .slice A1 b.ks.length cap1, .slice A2 b.ds.length cap2]) rfl
  have hB0 : Below w.heap.size w (w.alloc (.cells #[iv b.n, iv b.w, .slice A1 b.ks.length cap1, .slice A2 b.ds.length cap2] 25)) := up_alloc up0 _
  by_cases c1 : 10 < codes.length
  · have n1 : (10 : Int) < (codes.length : Int) := by omega
    have Hr := Lib.hid (show askF b codes gs = 3 by unfold askF; rw [if_pos (.inl c1)])
    clear N0 c1
    go_enter Try.func80, Try.ntmps80
    go_wp2_with fail
    go_ret
    exact ⟨by rw [Hr.out]; rfl, up_alloc up0 _⟩
  have n1 : ¬ (10 : Int) < (codes.length : Int) := by omega
  by_cases c2 : 6 < gs.length
  · have n2 : (6 : Int) < (gs.length : Int) := by omega
    have Hr := Lib.hid (show askF b codes gs = 3 by unfold askF; rw [if_pos (.inr c2)])
    clear N0 c1 c2
    go_enter Try.func80, Try.ntmps80
    go_wp2_with fail
    go_ret
    exact ⟨by rw [Hr.out]; rfl, up_alloc up0 _⟩
  have n2 : ¬ (6 : Int) < (gs.length : Int) := by omega
  cases cp : codes.all (fun x => belowB x b.n) with
  | false =>
    have Hr := Lib.hid (show askF b codes gs = 2 by unfold askF; rw [if_neg (by omega), if_pos (.inl cp)])
    have Hcp := Lib.hid cp
    clear c1 c2 cp
    go_enter Try.func80, Try.ntmps80
    go_wp2_with fail
    refine (Plain_any b.n b.w _ _ _ codes _ hn0 hn1 (HV.out.kept hB0)).mono ?_
    rintro e w2 ⟨rfl, hb⟩
    have HB := Lib.hid (up_later hB0 hb)
    have B1 := Lib.hid (N0.kept hb)
    clear hb N0 hB0
    rw [Hcp.out]
    go_wp2_with fail
    go_ret
    exact ⟨by rw [Hr.out]; rfl, HB.out⟩
  | true =>
  have Hcp := Lib.hid cp
  have Hca := Lib.hid (show ¬ (10 < codes.length ∨ 6 < gs.length) by omega)
  clear c1 c2 cp
  go_enter Try.func80, Try.ntmps80
  go_wp2_with fail
  refine (Plain_any b.n b.w _ _ _ codes _ hn0 hn1 (HV.out.kept hB0)).mono ?_
  rintro e w2 ⟨rfl, hb⟩
  have HB := Lib.hid (up_later hB0 hb)
  have B1 := Lib.hid (N0.kept hb)
  clear hb N0 hB0
  rw [Hcp.out]
  go_wp2_with fail
  go_loopw [7] (fun i wr => ∃ k : Nat, k ≤ gs.length ∧ i = .int .i64 k ∧ Hid (∀ x ∈ gs.take k, guessB b codes x = true) ∧ Hid (Box wr w.heap.size 25 #[iv b.n, iv b.w, .slice A1 b.ks.length cap1, .slice A2 b.ds.length cap2]) ∧ Hid (Below w.heap.size w wr)) (fun i _ => gs.length - (intOf i).toNat)
  case atStart => exact ⟨0, by omega, rfl, by simp [Hid], B1, HB⟩
  case round =>
    clear B1 HB
    obtain ⟨k, hk, rfl, Hno, hbx, HB⟩ := hrel
    have N := hbx.out
    have k0 : (0 : Int) ≤ (k : Int) := by omega
    have hW1 : IntKind.i64.wrap ((codes.length : Int) - 1) = (codes.length : Int) - 1 := wrapK_in _ 1000 (by omega) (by omega)
    have hW2 : IntKind.i64.wrap (b.n - 1) = b.n - 1 := wrapK_in _ 1000 (by omega) (by omega)
    by_cases hlt : k < gs.length
    · obtain ⟨x, hx⟩ : ∃ x, gs[k]? = some x := ⟨_, List.getElem?_eq_getElem hlt⟩
      have HR := Lib.hid (HL.out.kept HB.out)
      obtain ⟨b1, o1, rfl, _, _⟩ := HR.out.at rfl hx
      have k1 : (k : Int) < (gs.length : Int) := by omega
      have Hx := Lib.hid hx
      clear hx
      cases i1 : inB 0 ((codes.length : Int) - 1) x.a with
      | false =>
        have Hr := Lib.hid (show askF b codes gs = 2 by unfold askF; rw [if_neg Hca.out, if_pos (.inr (all_off (List.mem_of_getElem? Hx.out) (by rw [guessB_in, i1]; rfl)))])
        have HI1 := Lib.hid i1
        clear i1
        go_wp2_with fail
        apply wp_region_by 22 [(Fact.eq _), (Fact.eq _), (Fact.eq _), (Fact.eq _), (Fact.eq _), (Fact.eq _), (Fact.eq _), (Fact.eq _), (Fact.eq _), (Fact.eq _), (Fact.eq _), (Fact.eq _), (Fact.eq _), (Fact.eq _), (Fact.eq _), (Fact.eq _), (Fact.eq _), (Fact.eq _), (Fact.eq _), (Fact.eq _), (Fact.eq _), (Fact.eq _)]
        case hm => kernel_rfl
        case hB => kernel_rfl
        case hA => (intro vs; simp only [List.take_succ_cons, List.take_zero, putAll, if_true, Act.put, List.setIfInBounds_toArray, List.set_cons_zero, List.set_cons_succ]; exact rfl)
        case hstep =>
          intro vs
          refine And.intro (fun w hw hd => ?_) ?_
          · refine ite_yes rfl ?_
            simp only [Gives]
            go_simp
            exact ⟨Below.refl _ _, rfl, fun h => by cases h⟩
          refine And.intro (fun w hw hd => ?_) ?_
          · refine ite_yes rfl ?_
            simp only [Gives]
            go_simp
            exact ⟨Below.refl _ _, rfl, fun h => by cases h⟩
          refine And.intro (fun w hw hd => ?_) ?_
          · have d0 := hd 0 (by decide) rfl
            change vs 0 = _ at d0
            have d1 := hd 1 (by decide) rfl
            change vs 1 = _ at d1
            refine ite_yes rfl ?_
            simp only [Gives]
            go_simp
            exact ⟨Below.refl _ _, rfl, fun h => by cases h⟩
          refine And.intro (fun w hw hd => ?_) ?_
          · have d2 := hd 2 (by decide) rfl
            change vs 2 = _ at d2
            refine ite_yes rfl ?_
            simp only [Gives]
            go_simp
            exact ⟨Below.refl _ _, rfl, fun h => by cases h⟩
          refine And.intro (fun w hw hd => ?_) ?_
          · have d3 := hd 3 (by decide) rfl
            change vs 3 = _ at d3
            refine ite_yes rfl ?_
            have c_N := fun i => (N.kept hw).cell i
            have q0 : w.cell? ⟨b1, o1 + k * 2, none⟩ = some (.int .i64 x.a) := (HR.out.kept hw).cellAt Hx.out (j := 0) rfl
            have q1 : w.cell? ⟨b1, o1 + k * 2 + 1, none⟩ = some (.int .i64 x.p) := (HR.out.kept hw).cellAt Hx.out (j := 1) rfl
            simp only [Gives]
            go_simp
            exact ⟨Below.refl _ _, rfl, fun h => by cases h⟩
          refine And.intro (fun w hw hd => ?_) ?_
          · refine ite_yes rfl ?_
            simp only [Gives]
            go_simp
            exact ⟨Below.refl _ _, rfl, fun h => by cases h⟩
          refine And.intro (fun w hw hd => ?_) ?_
          · have d5 := hd 5 (by decide) rfl
            change vs 5 = _ at d5
            refine ite_yes rfl ?_
            simp only [Gives]
            go_simp
            exact ⟨Below.refl _ _, rfl, fun h => by cases h⟩
          refine And.intro (fun w hw hd => ?_) ?_
          · have d6 := hd 6 (by decide) rfl
            change vs 6 = _ at d6
            refine ite_yes rfl ?_
            simp only [Gives]
            go_simp
            exact ⟨Below.refl _ _, rfl, fun h => by cases h⟩
          refine And.intro (fun w hw hd => ?_) ?_
          · have d4 := hd 4 (by decide) rfl
            change vs 4 = _ at d4
            have d7 := hd 7 (by decide) rfl
            change vs 7 = _ at d7
            refine ite_yes rfl ?_
            simp only [Gives]
            go_simp
            refine (In_b x.a 0 ((codes.length : Int) - 1) false w HI1.out).mono ?_
            rintro e w1 ⟨rfl, hb⟩
            exact ⟨_, rfl, hb, rfl, fun h => by cases h⟩
          refine And.intro (fun w hw hd => ?_) ?_
          · have d8 := hd 8 (by decide) rfl
            change vs 8 = _ at d8
            refine ite_yes rfl ?_
            simp only [Gives]
            go_simp
            exact ⟨Below.refl _ _, rfl, fun h => by cases h⟩
          refine And.intro (fun w hw hd => ?_) ?_
          · have d9 := hd 9 (by decide) rfl
            change vs 9 = _ at d9
            refine ite_yes rfl ?_
            simp only [Gives]
            go_simp
            exact ⟨Below.refl _ _, rfl, fun h => by cases h⟩
          refine And.intro (fun w hw hd => ?_) ?_
          · have d10 := hd 10 (by decide) rfl
            change vs 10 = _ at d10
            refine ite_no (by simp [Region.wanted, yielded, d10]) ?_
            exact ⟨rfl, rfl⟩
          refine And.intro (fun w hw hd => ?_) ?_
          · have d10 := hd 10 (by decide) rfl
            change vs 10 = _ at d10
            refine ite_no (by simp [Region.wanted, yielded, d10]) ?_
            exact ⟨rfl, rfl⟩
          refine And.intro (fun w hw hd => ?_) ?_
          · have d11 := hd 11 (by decide) rfl
            change vs 11 = _ at d11
            have d12 := hd 12 (by decide) rfl
            change vs 12 = _ at d12
            have d10 := hd 10 (by decide) rfl
            change vs 10 = _ at d10
            refine ite_no (by simp [Region.wanted, yielded, d10]) ?_
            exact ⟨rfl, rfl⟩
          refine And.intro (fun w hw hd => ?_) ?_
          · have d13 := hd 13 (by decide) rfl
            change vs 13 = _ at d13
            have d10 := hd 10 (by decide) rfl
            change vs 10 = _ at d10
            refine ite_no (by simp [Region.wanted, yielded, d10]) ?_
            exact ⟨rfl, rfl⟩
          refine And.intro (fun w hw hd => ?_) ?_
          · have d14 := hd 14 (by decide) rfl
            change vs 14 = _ at d14
            have d10 := hd 10 (by decide) rfl
            change vs 10 = _ at d10
            refine ite_no (by simp [Region.wanted, yielded, d10]) ?_
            exact ⟨rfl, rfl⟩
          refine And.intro (fun w hw hd => ?_) ?_
          · have d10 := hd 10 (by decide) rfl
            change vs 10 = _ at d10
            refine ite_no (by simp [Region.wanted, yielded, d10]) ?_
            exact ⟨rfl, rfl⟩
          refine And.intro (fun w hw hd => ?_) ?_
          · have d16 := hd 16 (by decide) rfl
            change vs 16 = _ at d16
            have d10 := hd 10 (by decide) rfl
            change vs 10 = _ at d10
            refine ite_no (by simp [Region.wanted, yielded, d10]) ?_
            exact ⟨rfl, rfl⟩
          refine And.intro (fun w hw hd => ?_) ?_
          · have d17 := hd 17 (by decide) rfl
            change vs 17 = _ at d17
            have d10 := hd 10 (by decide) rfl
            change vs 10 = _ at d10
            refine ite_no (by simp [Region.wanted, yielded, d10]) ?_
            exact ⟨rfl, rfl⟩
          refine And.intro (fun w hw hd => ?_) ?_
          · have d15 := hd 15 (by decide) rfl
            change vs 15 = _ at d15
            have d18 := hd 18 (by decide) rfl
            change vs 18 = _ at d18
            have d10 := hd 10 (by decide) rfl
            change vs 10 = _ at d10
            refine ite_no (by simp [Region.wanted, yielded, d10]) ?_
            exact ⟨rfl, rfl⟩
          refine And.intro (fun w hw hd => ?_) ?_
          · have d19 := hd 19 (by decide) rfl
            change vs 19 = _ at d19
            have d10 := hd 10 (by decide) rfl
            change vs 10 = _ at d10
            refine ite_no (by simp [Region.wanted, yielded, d10]) ?_
            exact ⟨rfl, rfl⟩
          refine And.intro (fun w hw hd => ?_) ?_
          · have d10 := hd 10 (by decide) rfl
            change vs 10 = _ at d10
            have d20 := hd 20 (by decide) rfl
            change vs 20 = _ at d20
            refine ite_yes rfl ?_
            simp only [Gives]
            go_simp
            exact ⟨Below.refl _ _, rfl, fun h => by cases h⟩
          exact trivial
        intro vs wt hw hd hne hlo
        have d0 := hd 0 (by decide)
        change vs 0 = _ at d0
        have d1 := hd 1 (by decide)
        change vs 1 = _ at d1
        have d2 := hd 2 (by decide)
        change vs 2 = _ at d2
        have d3 := hd 3 (by decide)
        change vs 3 = _ at d3
        have d4 := hd 4 (by decide)
        change vs 4 = _ at d4
        have d5 := hd 5 (by decide)
        change vs 5 = _ at d5
        have d6 := hd 6 (by decide)
        change vs 6 = _ at d6
        have d7 := hd 7 (by decide)
        change vs 7 = _ at d7
        have d8 := hd 8 (by decide)
        change vs 8 = _ at d8
        have d9 := hd 9 (by decide)
        change vs 9 = _ at d9
        have d10 := hd 10 (by decide)
        change vs 10 = _ at d10
        have d11 := hd 11 (by decide)
        change vs 11 = _ at d11
        have d12 := hd 12 (by decide)
        change vs 12 = _ at d12
        have d13 := hd 13 (by decide)
        change vs 13 = _ at d13
        have d14 := hd 14 (by decide)
        change vs 14 = _ at d14
        have d15 := hd 15 (by decide)
        change vs 15 = _ at d15
        have d16 := hd 16 (by decide)
        change vs 16 = _ at d16
        have d17 := hd 17 (by decide)
        change vs 17 = _ at d17
        have d18 := hd 18 (by decide)
        change vs 18 = _ at d18
        have d19 := hd 19 (by decide)
        change vs 19 = _ at d19
        have d20 := hd 20 (by decide)
        change vs 20 = _ at d20
        have d21 := hd 21 (by decide)
        change vs 21 = _ at d21
        simp only [d0, d1, d2, d3, d4, d5, d6, d7, d8, d9, d10, d11, d12, d13, d14, d15, d16, d17, d18, d19, d20, d21, List.drop_succ_cons, List.drop_nil]
        have N := N.kept hw
        have c_N := fun i => N.cell i
        have f_N := fun i => N.free i
        clear hd hne hlo d0 d1 d2 d3 d4 d5 d6 d7 d8 d9 d10 d11 d12 d13 d14 d15 d16 d17 d18 d19 d20 d21
        go_wp2_with fail
        go_ret
        exact ⟨by rw [Hr.out]; rfl, up_later HB.out hw⟩
      | true =>
        have HI1 := Lib.hid i1
        cases i2 : inB 0 (b.n - 1) x.p with
        | false =>
          have Hr := Lib.hid (show askF b codes gs = 2 by unfold askF; rw [if_neg Hca.out, if_pos (.inr (all_off (List.mem_of_getElem? Hx.out) (by rw [guessB_in, i1, i2]; rfl)))])
          have HI2 := Lib.hid i2
          clear i1 i2
          go_wp2_with fail
          apply wp_region_by 22 [(Fact.eq _), (Fact.eq _), (Fact.eq _), (Fact.eq _), (Fact.eq _), (Fact.eq _), (Fact.eq _), (Fact.eq _), (Fact.eq _), (Fact.eq _), (Fact.eq _), (Fact.eq _), (Fact.eq _), (Fact.eq _), (Fact.eq _), (Fact.eq _), (Fact.eq _), (Fact.eq _), (Fact.eq _), (Fact.eq _), (Fact.eq _), (Fact.eq _)]
          case hm => kernel_rfl
          case hB => kernel_rfl
          case hA => (intro vs; simp only [List.take_succ_cons, List.take_zero, putAll, if_true, Act.put, List.setIfInBounds_toArray, List.set_cons_zero, List.set_cons_succ]; exact rfl)
          case hstep =>
            intro vs
            refine And.intro (fun w hw hd => ?_) ?_
            · refine ite_yes rfl ?_
              simp only [Gives]
              go_simp
              exact ⟨Below.refl _ _, rfl, fun h => by cases h⟩
            refine And.intro (fun w hw hd => ?_) ?_
            · refine ite_yes rfl ?_
              simp only [Gives]
              go_simp
              exact ⟨Below.refl _ _, rfl, fun h => by cases h⟩
            refine And.intro (fun w hw hd => ?_) ?_
            · have d0 := hd 0 (by decide) rfl
              change vs 0 = _ at d0
              have d1 := hd 1 (by decide) rfl
              change vs 1 = _ at d1
              refine ite_yes rfl ?_
              simp only [Gives]
              go_simp
              exact ⟨Below.refl _ _, rfl, fun h => by cases h⟩
            refine And.intro (fun w hw hd => ?_) ?_
            · have d2 := hd 2 (by decide) rfl
              change vs 2 = _ at d2
              refine ite_yes rfl ?_
              simp only [Gives]
              go_simp
              exact ⟨Below.refl _ _, rfl, fun h => by cases h⟩
            refine And.intro (fun w hw hd => ?_) ?_
            · have d3 := hd 3 (by decide) rfl
              change vs 3 = _ at d3
              refine ite_yes rfl ?_
              have c_N := fun i => (N.kept hw).cell i
              have q0 : w.cell? ⟨b1, o1 + k * 2, none⟩ = some (.int .i64 x.a) := (HR.out.kept hw).cellAt Hx.out (j := 0) rfl
              have q1 : w.cell? ⟨b1, o1 + k * 2 + 1, none⟩ = some (.int .i64 x.p) := (HR.out.kept hw).cellAt Hx.out (j := 1) rfl
              simp only [Gives]
              go_simp
              exact ⟨Below.refl _ _, rfl, fun h => by cases h⟩
            refine And.intro (fun w hw hd => ?_) ?_
            · refine ite_yes rfl ?_
              simp only [Gives]
              go_simp
              exact ⟨Below.refl _ _, rfl, fun h => by cases h⟩
            refine And.intro (fun w hw hd => ?_) ?_
            · have d5 := hd 5 (by decide) rfl
              change vs 5 = _ at d5
              refine ite_yes rfl ?_
              simp only [Gives]
              go_simp
              exact ⟨Below.refl _ _, rfl, fun h => by cases h⟩
            refine And.intro (fun w hw hd => ?_) ?_
            · have d6 := hd 6 (by decide) rfl
              change vs 6 = _ at d6
              refine ite_yes rfl ?_
              simp only [Gives]
              go_simp
              exact ⟨Below.refl _ _, rfl, fun h => by cases h⟩
            refine And.intro (fun w hw hd => ?_) ?_
            · have d4 := hd 4 (by decide) rfl
              change vs 4 = _ at d4
              have d7 := hd 7 (by decide) rfl
              change vs 7 = _ at d7
              refine ite_yes rfl ?_
              simp only [Gives]
              go_simp
              refine (In_b x.a 0 ((codes.length : Int) - 1) true w HI1.out).mono ?_
              rintro e w1 ⟨rfl, hb⟩
              exact ⟨_, rfl, hb, rfl, fun h => by cases h⟩
            refine And.intro (fun w hw hd => ?_) ?_
            · have d8 := hd 8 (by decide) rfl
              change vs 8 = _ at d8
              refine ite_yes rfl ?_
              simp only [Gives]
              go_simp
              exact ⟨Below.refl _ _, rfl, fun h => by cases h⟩
            refine And.intro (fun w hw hd => ?_) ?_
            · have d9 := hd 9 (by decide) rfl
              change vs 9 = _ at d9
              refine ite_yes rfl ?_
              simp only [Gives]
              go_simp
              exact ⟨Below.refl _ _, rfl, fun h => by cases h⟩
            refine And.intro (fun w hw hd => ?_) ?_
            · have d10 := hd 10 (by decide) rfl
              change vs 10 = _ at d10
              refine ite_yes (by simp [Region.wanted, yielded, d10]) ?_
              simp only [Gives]
              go_simp
              exact ⟨Below.refl _ _, rfl, fun h => by cases h⟩
            refine And.intro (fun w hw hd => ?_) ?_
            · have d10 := hd 10 (by decide) rfl
              change vs 10 = _ at d10
              refine ite_yes (by simp [Region.wanted, yielded, d10]) ?_
              simp only [Gives]
              go_simp
              exact ⟨Below.refl _ _, rfl, fun h => by cases h⟩
            refine And.intro (fun w hw hd => ?_) ?_
            · have d11 := hd 11 (by decide) rfl
              change vs 11 = _ at d11
              have d12 := hd 12 (by decide) rfl
              change vs 12 = _ at d12
              have d10 := hd 10 (by decide) rfl
              change vs 10 = _ at d10
              refine ite_yes (by simp [Region.wanted, yielded, d10]) ?_
              simp only [Gives]
              go_simp
              exact ⟨Below.refl _ _, rfl, fun h => by cases h⟩
            refine And.intro (fun w hw hd => ?_) ?_
            · have d13 := hd 13 (by decide) rfl
              change vs 13 = _ at d13
              have d10 := hd 10 (by decide) rfl
              change vs 10 = _ at d10
              refine ite_yes (by simp [Region.wanted, yielded, d10]) ?_
              simp only [Gives]
              go_simp
              exact ⟨Below.refl _ _, rfl, fun h => by cases h⟩
            refine And.intro (fun w hw hd => ?_) ?_
            · have d14 := hd 14 (by decide) rfl
              change vs 14 = _ at d14
              have d10 := hd 10 (by decide) rfl
              change vs 10 = _ at d10
              refine ite_yes (by simp [Region.wanted, yielded, d10]) ?_
              have c_N := fun i => (N.kept hw).cell i
              have q0 : w.cell? ⟨b1, o1 + k * 2, none⟩ = some (.int .i64 x.a) := (HR.out.kept hw).cellAt Hx.out (j := 0) rfl
              have q1 : w.cell? ⟨b1, o1 + k * 2 + 1, none⟩ = some (.int .i64 x.p) := (HR.out.kept hw).cellAt Hx.out (j := 1) rfl
              simp only [Gives]
              go_simp
              exact ⟨Below.refl _ _, rfl, fun h => by cases h⟩
            refine And.intro (fun w hw hd => ?_) ?_
            · have d10 := hd 10 (by decide) rfl
              change vs 10 = _ at d10
              refine ite_yes (by simp [Region.wanted, yielded, d10]) ?_
              simp only [Gives]
              go_simp
              exact ⟨Below.refl _ _, rfl, fun h => by cases h⟩
            refine And.intro (fun w hw hd => ?_) ?_
            · have d16 := hd 16 (by decide) rfl
              change vs 16 = _ at d16
              have d10 := hd 10 (by decide) rfl
              change vs 10 = _ at d10
              refine ite_yes (by simp [Region.wanted, yielded, d10]) ?_
              have c_N := fun i => (N.kept hw).cell i
              have q0 : w.cell? ⟨b1, o1 + k * 2, none⟩ = some (.int .i64 x.a) := (HR.out.kept hw).cellAt Hx.out (j := 0) rfl
              have q1 : w.cell? ⟨b1, o1 + k * 2 + 1, none⟩ = some (.int .i64 x.p) := (HR.out.kept hw).cellAt Hx.out (j := 1) rfl
              simp only [Gives]
              go_simp
              exact ⟨Below.refl _ _, rfl, fun h => by cases h⟩
            refine And.intro (fun w hw hd => ?_) ?_
            · have d17 := hd 17 (by decide) rfl
              change vs 17 = _ at d17
              have d10 := hd 10 (by decide) rfl
              change vs 10 = _ at d10
              refine ite_yes (by simp [Region.wanted, yielded, d10]) ?_
              simp only [Gives]
              go_simp
              exact ⟨Below.refl _ _, rfl, fun h => by cases h⟩
            refine And.intro (fun w hw hd => ?_) ?_
            · have d15 := hd 15 (by decide) rfl
              change vs 15 = _ at d15
              have d18 := hd 18 (by decide) rfl
              change vs 18 = _ at d18
              have d10 := hd 10 (by decide) rfl
              change vs 10 = _ at d10
              refine ite_yes (by simp [Region.wanted, yielded, d10]) ?_
              simp only [Gives]
              go_simp
              refine (In_b x.p 0 (b.n - 1) false w HI2.out).mono ?_
              rintro e w1 ⟨rfl, hb⟩
              exact ⟨_, rfl, hb, rfl, fun h => by cases h⟩
            refine And.intro (fun w hw hd => ?_) ?_
            · have d19 := hd 19 (by decide) rfl
              change vs 19 = _ at d19
              have d10 := hd 10 (by decide) rfl
              change vs 10 = _ at d10
              refine ite_yes (by simp [Region.wanted, yielded, d10]) ?_
              simp only [Gives]
              go_simp
              exact ⟨Below.refl _ _, rfl, fun h => by cases h⟩
            refine And.intro (fun w hw hd => ?_) ?_
            · have d10 := hd 10 (by decide) rfl
              change vs 10 = _ at d10
              have d20 := hd 20 (by decide) rfl
              change vs 20 = _ at d20
              refine ite_yes rfl ?_
              simp only [Gives]
              go_simp
              exact ⟨Below.refl _ _, rfl, fun h => by cases h⟩
            exact trivial
          intro vs wt hw hd hne hlo
          have d0 := hd 0 (by decide)
          change vs 0 = _ at d0
          have d1 := hd 1 (by decide)
          change vs 1 = _ at d1
          have d2 := hd 2 (by decide)
          change vs 2 = _ at d2
          have d3 := hd 3 (by decide)
          change vs 3 = _ at d3
          have d4 := hd 4 (by decide)
          change vs 4 = _ at d4
          have d5 := hd 5 (by decide)
          change vs 5 = _ at d5
          have d6 := hd 6 (by decide)
          change vs 6 = _ at d6
          have d7 := hd 7 (by decide)
          change vs 7 = _ at d7
          have d8 := hd 8 (by decide)
          change vs 8 = _ at d8
          have d9 := hd 9 (by decide)
          change vs 9 = _ at d9
          have d10 := hd 10 (by decide)
          change vs 10 = _ at d10
          have d11 := hd 11 (by decide)
          change vs 11 = _ at d11
          have d12 := hd 12 (by decide)
          change vs 12 = _ at d12
          have d13 := hd 13 (by decide)
          change vs 13 = _ at d13
          have d14 := hd 14 (by decide)
          change vs 14 = _ at d14
          have d15 := hd 15 (by decide)
          change vs 15 = _ at d15
          have d16 := hd 16 (by decide)
          change vs 16 = _ at d16
          have d17 := hd 17 (by decide)
          change vs 17 = _ at d17
          have d18 := hd 18 (by decide)
          change vs 18 = _ at d18
          have d19 := hd 19 (by decide)
          change vs 19 = _ at d19
          have d20 := hd 20 (by decide)
          change vs 20 = _ at d20
          have d21 := hd 21 (by decide)
          change vs 21 = _ at d21
          simp only [d0, d1, d2, d3, d4, d5, d6, d7, d8, d9, d10, d11, d12, d13, d14, d15, d16, d17, d18, d19, d20, d21, List.drop_succ_cons, List.drop_nil]
          have N := N.kept hw
          have c_N := fun i => N.cell i
          have f_N := fun i => N.free i
          clear hd hne hlo d0 d1 d2 d3 d4 d5 d6 d7 d8 d9 d10 d11 d12 d13 d14 d15 d16 d17 d18 d19 d20 d21
          go_wp2_with fail
          go_ret
          exact ⟨by rw [Hr.out]; rfl, up_later HB.out hw⟩
        | true =>
          have Hp := Lib.hid (show guessB b codes x = true by rw [guessB_in, i1, i2]; rfl)
          have HI2 := Lib.hid i2
          clear i1 i2
          go_wp2_with fail
          apply wp_region_by 22 [(Fact.eq _), (Fact.eq _), (Fact.eq _), (Fact.eq _), (Fact.eq _), (Fact.eq _), (Fact.eq _), (Fact.eq _), (Fact.eq _), (Fact.eq _), (Fact.eq _), (Fact.eq _), (Fact.eq _), (Fact.eq _), (Fact.eq _), (Fact.eq _), (Fact.eq _), (Fact.eq _), (Fact.eq _), (Fact.eq _), (Fact.eq _), (Fact.eq _)]
          case hm => kernel_rfl
          case hB => kernel_rfl
          case hA => (intro vs; simp only [List.take_succ_cons, List.take_zero, putAll, if_true, Act.put, List.setIfInBounds_toArray, List.set_cons_zero, List.set_cons_succ]; exact rfl)
          case hstep =>
            intro vs
            refine And.intro (fun w hw hd => ?_) ?_
            · refine ite_yes rfl ?_
              simp only [Gives]
              go_simp
              exact ⟨Below.refl _ _, rfl, fun h => by cases h⟩
            refine And.intro (fun w hw hd => ?_) ?_
            · refine ite_yes rfl ?_
              simp only [Gives]
              go_simp
              exact ⟨Below.refl _ _, rfl, fun h => by cases h⟩
            refine And.intro (fun w hw hd => ?_) ?_
            · have d0 := hd 0 (by decide) rfl
              change vs 0 = _ at d0
              have d1 := hd 1 (by decide) rfl
              change vs 1 = _ at d1
              refine ite_yes rfl ?_
              simp only [Gives]
              go_simp
              exact ⟨Below.refl _ _, rfl, fun h => by cases h⟩
            refine And.intro (fun w hw hd => ?_) ?_
            · have d2 := hd 2 (by decide) rfl
              change vs 2 = _ at d2
              refine ite_yes rfl ?_
              simp only [Gives]
              go_simp
              exact ⟨Below.refl _ _, rfl, fun h => by cases h⟩
            refine And.intro (fun w hw hd => ?_) ?_
            · have d3 := hd 3 (by decide) rfl
              change vs 3 = _ at d3
              refine ite_yes rfl ?_
              have c_N := fun i => (N.kept hw).cell i
              have q0 : w.cell? ⟨b1, o1 + k * 2, none⟩ = some (.int .i64 x.a) := (HR.out.kept hw).cellAt Hx.out (j := 0) rfl
              have q1 : w.cell? ⟨b1, o1 + k * 2 + 1, none⟩ = some (.int .i64 x.p) := (HR.out.kept hw).cellAt Hx.out (j := 1) rfl
              simp only [Gives]
              go_simp
              exact ⟨Below.refl _ _, rfl, fun h => by cases h⟩
            refine And.intro (fun w hw hd => ?_) ?_
            · refine ite_yes rfl ?_
              simp only [Gives]
              go_simp
              exact ⟨Below.refl _ _, rfl, fun h => by cases h⟩
            refine And.intro (fun w hw hd => ?_) ?_
            · have d5 := hd 5 (by decide) rfl
              change vs 5 = _ at d5
              refine ite_yes rfl ?_
              simp only [Gives]
              go_simp
              exact ⟨Below.refl _ _, rfl, fun h => by cases h⟩
            refine And.intro (fun w hw hd => ?_) ?_
            · have d6 := hd 6 (by decide) rfl
              change vs 6 = _ at d6
              refine ite_yes rfl ?_
              simp only [Gives]
              go_simp
              exact ⟨Below.refl _ _, rfl, fun h => by cases h⟩
            refine And.intro (fun w hw hd => ?_) ?_
            · have d4 := hd 4 (by decide) rfl
              change vs 4 = _ at d4
              have d7 := hd 7 (by decide) rfl
              change vs 7 = _ at d7
              refine ite_yes rfl ?_
              simp only [Gives]
              go_simp
              refine (In_b x.a 0 ((codes.length : Int) - 1) true w HI1.out).mono ?_
              rintro e w1 ⟨rfl, hb⟩
              exact ⟨_, rfl, hb, rfl, fun h => by cases h⟩
            refine And.intro (fun w hw hd => ?_) ?_
            · have d8 := hd 8 (by decide) rfl
              change vs 8 = _ at d8
              refine ite_yes rfl ?_
              simp only [Gives]
              go_simp
              exact ⟨Below.refl _ _, rfl, fun h => by cases h⟩
            refine And.intro (fun w hw hd => ?_) ?_
            · have d9 := hd 9 (by decide) rfl
              change vs 9 = _ at d9
              refine ite_yes rfl ?_
              simp only [Gives]
              go_simp
              exact ⟨Below.refl _ _, rfl, fun h => by cases h⟩
            refine And.intro (fun w hw hd => ?_) ?_
            · have d10 := hd 10 (by decide) rfl
              change vs 10 = _ at d10
              refine ite_yes (by simp [Region.wanted, yielded, d10]) ?_
              simp only [Gives]
              go_simp
              exact ⟨Below.refl _ _, rfl, fun h => by cases h⟩
            refine And.intro (fun w hw hd => ?_) ?_
            · have d10 := hd 10 (by decide) rfl
              change vs 10 = _ at d10
              refine ite_yes (by simp [Region.wanted, yielded, d10]) ?_
              simp only [Gives]
              go_simp
              exact ⟨Below.refl _ _, rfl, fun h => by cases h⟩
            refine And.intro (fun w hw hd => ?_) ?_
            · have d11 := hd 11 (by decide) rfl
              change vs 11 = _ at d11
              have d12 := hd 12 (by decide) rfl
              change vs 12 = _ at d12
              have d10 := hd 10 (by decide) rfl
              change vs 10 = _ at d10
              refine ite_yes (by simp [Region.wanted, yielded, d10]) ?_
              simp only [Gives]
              go_simp
              exact ⟨Below.refl _ _, rfl, fun h => by cases h⟩
            refine And.intro (fun w hw hd => ?_) ?_
            · have d13 := hd 13 (by decide) rfl
              change vs 13 = _ at d13
              have d10 := hd 10 (by decide) rfl
              change vs 10 = _ at d10
              refine ite_yes (by simp [Region.wanted, yielded, d10]) ?_
              simp only [Gives]
              go_simp
              exact ⟨Below.refl _ _, rfl, fun h => by cases h⟩
            refine And.intro (fun w hw hd => ?_) ?_
            · have d14 := hd 14 (by decide) rfl
              change vs 14 = _ at d14
              have d10 := hd 10 (by decide) rfl
              change vs 10 = _ at d10
              refine ite_yes (by simp [Region.wanted, yielded, d10]) ?_
              have c_N := fun i => (N.kept hw).cell i
              have q0 : w.cell? ⟨b1, o1 + k * 2, none⟩ = some (.int .i64 x.a) := (HR.out.kept hw).cellAt Hx.out (j := 0) rfl
              have q1 : w.cell? ⟨b1, o1 + k * 2 + 1, none⟩ = some (.int .i64 x.p) := (HR.out.kept hw).cellAt Hx.out (j := 1) rfl
              simp only [Gives]
              go_simp
              exact ⟨Below.refl _ _, rfl, fun h => by cases h⟩
            refine And.intro (fun w hw hd => ?_) ?_
            · have d10 := hd 10 (by decide) rfl
              change vs 10 = _ at d10
              refine ite_yes (by simp [Region.wanted, yielded, d10]) ?_
              simp only [Gives]
              go_simp
              exact ⟨Below.refl _ _, rfl, fun h => by cases h⟩
            refine And.intro (fun w hw hd => ?_) ?_
            · have d16 := hd 16 (by decide) rfl
              change vs 16 = _ at d16
              have d10 := hd 10 (by decide) rfl
              change vs 10 = _ at d10
              refine ite_yes (by simp [Region.wanted, yielded, d10]) ?_
              have c_N := fun i => (N.kept hw).cell i
              have q0 : w.cell? ⟨b1, o1 + k * 2, none⟩ = some (.int .i64 x.a) := (HR.out.kept hw).cellAt Hx.out (j := 0) rfl
              have q1 : w.cell? ⟨b1, o1 + k * 2 + 1, none⟩ = some (.int .i64 x.p) := (HR.out.kept hw).cellAt Hx.out (j := 1) rfl
              simp only [Gives]
              go_simp
              exact ⟨Below.refl _ _, rfl, fun h => by cases h⟩
            refine And.intro (fun w hw hd => ?_) ?_
            · have d17 := hd 17 (by decide) rfl
              change vs 17 = _ at d17
              have d10 := hd 10 (by decide) rfl
              change vs 10 = _ at d10
              refine ite_yes (by simp [Region.wanted, yielded, d10]) ?_
              simp only [Gives]
              go_simp
              exact ⟨Below.refl _ _, rfl, fun h => by cases h⟩
            refine And.intro (fun w hw hd => ?_) ?_
            · have d15 := hd 15 (by decide) rfl
              change vs 15 = _ at d15
              have d18 := hd 18 (by decide) rfl
              change vs 18 = _ at d18
              have d10 := hd 10 (by decide) rfl
              change vs 10 = _ at d10
              refine ite_yes (by simp [Region.wanted, yielded, d10]) ?_
              simp only [Gives]
              go_simp
              refine (In_b x.p 0 (b.n - 1) true w HI2.out).mono ?_
              rintro e w1 ⟨rfl, hb⟩
              exact ⟨_, rfl, hb, rfl, fun h => by cases h⟩
            refine And.intro (fun w hw hd => ?_) ?_
            · have d19 := hd 19 (by decide) rfl
              change vs 19 = _ at d19
              have d10 := hd 10 (by decide) rfl
              change vs 10 = _ at d10
              refine ite_yes (by simp [Region.wanted, yielded, d10]) ?_
              simp only [Gives]
              go_simp
              exact ⟨Below.refl _ _, rfl, fun h => by cases h⟩
            refine And.intro (fun w hw hd => ?_) ?_
            · have d10 := hd 10 (by decide) rfl
              change vs 10 = _ at d10
              have d20 := hd 20 (by decide) rfl
              change vs 20 = _ at d20
              refine ite_yes rfl ?_
              simp only [Gives]
              go_simp
              exact ⟨Below.refl _ _, rfl, fun h => by cases h⟩
            exact trivial
          intro vs wt hw hd hne hlo
          have d0 := hd 0 (by decide)
          change vs 0 = _ at d0
          have d1 := hd 1 (by decide)
          change vs 1 = _ at d1
          have d2 := hd 2 (by decide)
          change vs 2 = _ at d2
          have d3 := hd 3 (by decide)
          change vs 3 = _ at d3
          have d4 := hd 4 (by decide)
          change vs 4 = _ at d4
          have d5 := hd 5 (by decide)
          change vs 5 = _ at d5
          have d6 := hd 6 (by decide)
          change vs 6 = _ at d6
          have d7 := hd 7 (by decide)
          change vs 7 = _ at d7
          have d8 := hd 8 (by decide)
          change vs 8 = _ at d8
          have d9 := hd 9 (by decide)
          change vs 9 = _ at d9
          have d10 := hd 10 (by decide)
          change vs 10 = _ at d10
          have d11 := hd 11 (by decide)
          change vs 11 = _ at d11
          have d12 := hd 12 (by decide)
          change vs 12 = _ at d12
          have d13 := hd 13 (by decide)
          change vs 13 = _ at d13
          have d14 := hd 14 (by decide)
          change vs 14 = _ at d14
          have d15 := hd 15 (by decide)
          change vs 15 = _ at d15
          have d16 := hd 16 (by decide)
          change vs 16 = _ at d16
          have d17 := hd 17 (by decide)
          change vs 17 = _ at d17
          have d18 := hd 18 (by decide)
          change vs 18 = _ at d18
          have d19 := hd 19 (by decide)
          change vs 19 = _ at d19
          have d20 := hd 20 (by decide)
          change vs 20 = _ at d20
          have d21 := hd 21 (by decide)
          change vs 21 = _ at d21
          simp only [d0, d1, d2, d3, d4, d5, d6, d7, d8, d9, d10, d11, d12, d13, d14, d15, d16, d17, d18, d19, d20, d21, List.drop_succ_cons, List.drop_nil]
          have N := N.kept hw
          have c_N := fun i => N.cell i
          have f_N := fun i => N.free i
          clear hd hne hlo d0 d1 d2 d3 d4 d5 d6 d7 d8 d9 d10 d11 d12 d13 d14 d15 d16 d17 d18 d19 d20 d21
          go_wp2_with fail
          go_roundw
          case rel => exact ⟨k + 1, by omega, by go_num, all_yes Hno.out Hx.out Hp.out, N, up_later HB.out hw⟩
          case measure => simp [intOf]; omega
    · have Hr := Lib.hid (show askF b codes gs = 0 by
        unfold askF
        rw [if_neg Hca.out, if_neg]
        rintro (h | h)
        · rw [Hcp.out] at h; cases h
        · have a := Hno.out
          rw [List.take_of_length_le (by omega)] at a
          rw [List.all_eq_true.2 a] at h
          cases h)
      go_wp2_with fail
      go_ret
      exact ⟨by rw [Hr.out]; rfl, HB.out⟩

set_option maxRecDepth 100000 in
set_option maxHeartbeats 1000000 in
theorem asked_any (v1 v2 v3 v : Value) (b : Bk) (codes : List Int) (gs : List Gs) (w : World) (hL : BookAt w v1 v2 b) (hc : IntsAt w v3 codes) (hl : RowsAt w v 2 Gs.cells gs) :
    Calls Try.prog 43 #[.agg #[iv b.n, iv b.w, v1, v2], v3, v] w fun e w' => e = .returned (iv (askE b codes gs)) ∧ Below w.heap.size w w' := by
  obtain ⟨_, A1, cap1, rfl, _, _⟩ := hL.ks.form
  obtain ⟨_, A2, cap2, rfl, _, _⟩ := hL.ds.form
  obtain ⟨_, A4, cap4, rfl, _, _⟩ := hc.form
  obtain ⟨_, A3, cap3, rfl, _, _⟩ := hl.form
  have HL := Lib.hid hL
  have HV := Lib.hid hl
  have HC := Lib.hid hc
  clear hL hl hc
  by_cases c1 : bookE b = 0
  · have e1 : (bookE b == 0) = true := by rw [beq_iff_eq]; exact c1
    have HOK := Lib.hid (BookOK.of c1)
    have Hr := Lib.hid (show askE b codes gs = askF b codes gs by unfold askE askF; rw [if_neg (by simpa using c1)])
    clear c1
    go_enter Try.func43, Try.ntmps43
    go_wp2_with fail
    refine (Lfault_any _ _ b _ (HL.out.kept (up_alloc up0 _))).mono ?_
    rintro e w1 ⟨rfl, hb⟩
    have HB := Lib.hid (up_later (up_alloc (up0 (w := w)) (.cells #[iv b.n, iv b.w, .slice A1 b.ks.length cap1, .slice A2 b.ds.length cap2] 25)) hb)
    have B1 := Lib.hid ((Box.new (w := w) (t := 25) (cs := #[iv b.n, iv b.w, .slice A1 b.ks.length cap1, .slice A2 b.ds.length cap2]) rfl).kept hb)
    clear hb
    have BB := B1.out
    have cB := fun i => BB.cell i
    have fB := fun i => BB.free i
    have lB := BB.lt
    have mB := Nat.lt_succ_of_lt lB
    go_wp2_with fail
    clear cB fB lB mB BB
    refine (AskFault_any _ _ _ _ b codes gs _ HOK.out (HL.out.kept HB.out) (HC.out.kept HB.out) (HV.out.kept HB.out)).mono ?_
    rintro e w2 ⟨rfl, hb⟩
    go_wp2_with fail
    go_ret
    exact ⟨by rw [Hr.out]; rfl, up_later HB.out hb⟩
  · have e1 : (bookE b == 0) = false := by rw [beq_eq_false_iff_ne]; exact c1
    have Hr := Lib.hid (show askE b codes gs = bookE b by unfold askE; rw [if_pos c1])
    clear c1
    go_enter Try.func43, Try.ntmps43
    go_wp2_with fail
    refine (Lfault_any _ _ b _ (HL.out.kept (up_alloc up0 _))).mono ?_
    rintro e w1 ⟨rfl, hb⟩
    go_wp2_with fail
    go_ret
    exact ⟨by rw [Hr.out]; rfl, up_later (up_alloc up0 _) hb⟩
end Go.Proofs.Ytkhfkmfofhnmdaa

namespace Go.Proofs.Ytkhfkmfofhnmdaa
open Go.RowKit

theorem callsIn_round {P : Program} {f : FuncId} {args : Array Value} {w : World} {R : Ending → World → Prop} (l n : Nat) (h : Calls P f args w R) : CallsIn (Fence.wide.inRound l) n P f args w R := (callsIn_wide (n := n)).2 h
theorem rowsIn_round {P : Program} {row : String} {args : Array Value} {w : World} {R : Value → World → Prop} (l n : Nat) (h : Rows P row args w R) : RowsIn (Fence.wide.inRound l) n P row args w R := fun c cs _ => by
  obtain ⟨v, w', r, s⟩ := h c cs
  exact ⟨v, w', r, stepsIn_wide.2 s⟩
/-- No operation is a defer statement. -/
def plainB (ops : Array Oper) : Bool := ops.toList.all fun o => match o.op with | .defer _ => false | _ => true
section
variable {P : Program} {Q Q' : Exit → Act → World → Prop} {l n : Nat}
theorem operIn_of {o : Oper} {a : Act} {w : World} {K K' : Act → World → Prop} (hd : ∀ c, o.op ≠ .defer c) (h : ∀ a w, K a w → K' a w) (hQ : ∀ e a w, Q e a w → Q' e a w) (hL : ¬ LetsOut Q) (hh : o.wp P a w K Q) : o.wpIn (Fence.wide.inRound l) n P a w K' Q' := by
  unfold Oper.wp at hh
  unfold Oper.wpIn
  refine ⟨fun _ _ => trivial, ?_⟩
  rw [Fence.inRound_round, Oper.semAt_some l _ _ hd]
  generalize (execOp a.eval o).run P w = r at *
  cases r with
  | ok x w' =>
    cases x <;> simp only [Oper.upon, Oper.uponIn] at hh ⊢ <;>
      first
        | exact h _ _ hh
        | exact ⟨fun hx => (by cases hx), callsIn_round l _ (Calls.mono hh (fun e w'' he => by cases e <;> first | exact h _ _ he | exact hQ _ _ _ he | exact absurd he hL))⟩
        | exact ⟨fun hx => (by cases hx), rowsIn_round l _ (Rows.mono hh (fun _ _ he => h _ _ he))⟩
  | halt x w' => cases x <;> simp only [Oper.upon, Oper.uponIn] at hh ⊢ <;> exact hQ _ _ _ hh
theorem wpAnyIn_of {md : Region.Mode} {ops : Array Oper} (hp : plainB ops = true) (hQ : ∀ e a w, Q e a w → Q' e a w) (hL : ¬ LetsOut Q) : ∀ (fuel : Nat) (listed : Array Bool) (a : Act) (w : World), wpAny P md ops Q fuel listed a w → wpAnyIn (Fence.wide.inRound l) n P md ops Q' fuel listed a w := by
  intro fuel
  induction fuel with
  | zero => intro listed a w h; exact ⟨h.1, hQ _ _ _ h.2⟩
  | succ fuel ih =>
    intro listed a w h
    refine ⟨fun h0 => hQ _ _ _ (h.1 h0), fun i hi => ?_⟩
    have hh := h.2 i hi
    unfold wpOp at hh
    unfold wpOpIn
    split
    · rename_i ho
      simp only [ho] at hh
      exact ih _ _ _ hh
    · rename_i o ho
      simp only [ho] at hh
      have hd : ∀ c, o.op ≠ .defer c := fun c hc => by
        have := List.all_eq_true.1 hp o (Array.mem_toList_iff.2 (Array.mem_of_getElem? ho))
        rw [hc] at this
        cases this
      split
      · rename_i hw
        rw [if_pos hw] at hh
        exact operIn_of hd (fun a w => ih _ a w) hQ hL (hh.resolve_right fun x => hL x.2)
      · rename_i hw
        rw [if_neg hw] at hh
        exact ⟨fun _ _ => trivial, ih _ _ _ hh⟩
end

theorem letsOut_no (Q : Act → World → Prop) : ¬ LetsOut (fun e a w => e = Exit.normal ∧ Q a w) := fun ⟨_, _, h, _⟩ => by cases h

/-- **A region that draws its order, by facts, in a round.** -/
theorem wpIn_region_facts {P : Program} {id : Nat} {Q : Exit → Act → World → Prop} {a0 : Act} {w0 : World} {l : List Oper} {ro m : Nat} (n : Nat) (R : World → World → Prop) (F : Nat → Value → World → Prop)
    (hm : P.follows .mixedOrders = true) (hpl : plainB l.toArray = true) (hB : factsB .any l.toArray n = true) (h0 : R w0 w0.drew) (hR : ∀ a b c, R a b → R b c → R a c) (hF : ∀ i v w w', F i v w → R w w' → F i v w')
    (G : Nat → Bool) (hS : ∀ a b, R a b → a.heap.size ≤ b.heap.size) (hG : ∀ i v w, G i = true → F i v w → blk v < w.heap.size)
    (hstep : ∀ (vs : Nat → Value), Each (fun i o => ∀ w : World, R w0 w → (∀ d, d < n → leansOn l.toArray o d = true → F d (vs d) w) →
      if Region.wanted o (yielded l.toArray (putAll (fun _ => true) vs 0 (l.take n) a0).tmps) then Gives P o (putAll (fun _ => true) vs 0 (l.take n) a0) w (fun v w' => R w w' ∧ F i v w' ∧ (G i = true → w.heap.size ≤ blk v)) else F i undef w ∧ R w w ∧ G i = false) 0 (l.take n))
    (htail : ∀ (vs : Nat → Value) (w : World), R w0 w → (∀ d, d < n → F d (vs d) w) → (∀ i j, i < n → j < n → i ≠ j → G i = true → G j = true → blk (vs i) ≠ blk (vs j)) → (∀ i, i < n → G i = true → w0.heap.size ≤ blk (vs i)) → wpList P l.toArray (fun e a w => e = .normal ∧ Q .normal a w) (l.drop n) (putAll (fun _ => true) vs 0 (l.take n) a0) w) :
    (Code.region id l.toArray true).wpIn (Fence.wide.inRound ro) m P Q a0 w0 := by
  refine wpIn_region_any hm (wpAnyIn_of (Q := fun e a w => e = .normal ∧ Q .normal a w) hpl (fun _ _ _ h => by obtain ⟨rfl, h⟩ := h; exact h) (letsOut_no _) _ _ _ _ ?_)
  have hn : n ≤ l.toArray.size := by
    simp only [factsB, Bool.and_eq_true, decide_eq_true_eq] at hB
    exact hB.1.1.1.2
  have inv0 : HeadInv .any l.toArray n (Array.replicate l.toArray.size false) :=
    ⟨by simp, fun j oj _ hl => (by rw [getD_replicate_false] at hl; cases hl), fun t _ ht => getD_in (by simpa using ht) (getD_replicate_false _ _)⟩
  have hun : unl n (Array.replicate l.toArray.size false) = n := by
    unfold unl
    rw [List.countP_eq_length.2]
    · simp
    · intro i _; rw [getD_replicate_false]; rfl
  have hput : putAll (fun i => (Array.replicate l.toArray.size false).getD i false) (fun _ => undef) 0 (l.take n) a0 = a0 := by
    have hg : ∀ (l' : List Oper) (k : Nat) (a : Act), putAll (fun i => (Array.replicate l.toArray.size false).getD i false) (fun _ => undef) k l' a = a := by
      intro l'
      induction l' with
      | nil => intro k a; rfl
      | cons o r ih => intro k a; unfold putAll; rw [getD_replicate_false, if_neg (by simp)]; exact ih _ _
    exact hg _ _ _
  have := wpAny_facts (P := P) (md := .any) (ops := l.toArray) (Q := fun e a w => e = .normal ∧ Q .normal a w) (n := n) (R := R) (F := F) (a0 := a0) (w0 := w0) hB hR hF G hS hG
    (fun i o hi ho vs w hRw hd => by
      have h := Each.get (hstep vs) i o (by rw [List.getElem?_take, if_pos hi]; simpa using ho)
      rw [Nat.zero_add] at h
      exact h w hRw hd)
    (fun vs w hRw hd hDs hLs => htail vs w hRw hd hDs hLs) n (Array.replicate l.toArray.size false) (fun _ => undef) w0.drew inv0 hun h0
    (fun d _ hl => by rw [getD_replicate_false] at hl; cases hl) (fun d e _ _ _ hl => by rw [getD_replicate_false] at hl; cases hl) (fun d _ hl => by rw [getD_replicate_false] at hl; cases hl)
  rw [hput, show n + (l.toArray.size - n) = l.toArray.size by omega] at this
  exact this

theorem wpIn_region_by {P : Program} {id : Nat} {Q : Exit → Act → World → Prop} {a0 : Act} {w0 : World} {l : List Oper} {ro m : Nat} (n : Nat) (Fs : List Fact) (A : (Nat → Value) → Act)
    (hm : P.follows .mixedOrders = true) (hpl : plainB l.toArray = true) (hB : factsB .any l.toArray n = true) (hA : ∀ vs, putAll (fun _ => true) vs 0 (l.take n) a0 = A vs)
    (hstep : ∀ (vs : Nat → Value), Each (fun i o => ∀ w : World, Below w0.heap.size w0 w → (∀ d, d < n → leansOn l.toArray o d = true → (Fs.getD d Fact.any).p (vs d) w) →
      if Region.wanted o (yielded l.toArray (A vs).tmps) = true then Gives P o (A vs) w (fun v w' => Below w.heap.size w w' ∧ (Fs.getD i Fact.any).p v w' ∧ ((Fs.getD i Fact.any).fr = true → w.heap.size ≤ blk v)) else (Fs.getD i Fact.any).p undef w ∧ (Fs.getD i Fact.any).fr = false) 0 (l.take n))
    (htail : ∀ (vs : Nat → Value) (w : World), Below w0.heap.size w0 w → (∀ d, d < n → (Fs.getD d Fact.any).p (vs d) w) → (∀ i j, i < n → j < n → i ≠ j → (Fs.getD i Fact.any).fr = true → (Fs.getD j Fact.any).fr = true → blk (vs i) ≠ blk (vs j)) → (∀ i, i < n → (Fs.getD i Fact.any).fr = true → w0.heap.size ≤ blk (vs i)) → wpList P l.toArray (fun e a w => e = .normal ∧ Q .normal a w) (l.drop n) (A vs) w) :
    (Code.region id l.toArray true).wpIn (Fence.wide.inRound ro) m P Q a0 w0 := by
  refine wpIn_region_facts n (fun w w' => Below w.heap.size w w') (fun i v w => (Fs.getD i Fact.any).p v w) hm hpl hB (Below.refl _ _).drew (fun a b c h k => h.trans (k.mono h.size)) (fun i v w w' h k => (Fs.getD i Fact.any).st v w w' h k) (fun i => (Fs.getD i Fact.any).fr) (fun _ _ h => h.size) (fun i v w h k => (Fs.getD i Fact.any).lt v w h k) ?_ ?_
  · intro vs
    have hg : ∀ (l' : List Oper) (k : Nat), Each (fun i o => ∀ w : World, Below w0.heap.size w0 w → (∀ d, d < n → leansOn l.toArray o d = true → (Fs.getD d Fact.any).p (vs d) w) →
        if Region.wanted o (yielded l.toArray (A vs).tmps) = true then Gives P o (A vs) w (fun v w' => Below w.heap.size w w' ∧ (Fs.getD i Fact.any).p v w' ∧ ((Fs.getD i Fact.any).fr = true → w.heap.size ≤ blk v)) else (Fs.getD i Fact.any).p undef w ∧ (Fs.getD i Fact.any).fr = false) k l' →
        Each (fun i o => ∀ w : World, Below w0.heap.size w0 w → (∀ d, d < n → leansOn l.toArray o d = true → (Fs.getD d Fact.any).p (vs d) w) →
        if Region.wanted o (yielded l.toArray (putAll (fun _ => true) vs 0 (l.take n) a0).tmps) = true then Gives P o (putAll (fun _ => true) vs 0 (l.take n) a0) w (fun v w' => Below w.heap.size w w' ∧ (Fs.getD i Fact.any).p v w' ∧ ((Fs.getD i Fact.any).fr = true → w.heap.size ≤ blk v)) else (Fs.getD i Fact.any).p undef w ∧ Below w.heap.size w w ∧ (Fs.getD i Fact.any).fr = false) k l' := by
      intro l'
      induction l' with
      | nil => intro k _; trivial
      | cons o r ih =>
        intro k h
        refine ⟨fun w hw hd => ?_, ih _ h.2⟩
        have h1 := h.1 w hw hd
        rw [hA vs]
        split
        · rename_i hw'; rw [if_pos hw'] at h1; exact h1
        · rename_i hw'; rw [if_neg hw'] at h1; exact ⟨h1.1, Below.refl _ _, h1.2⟩
    exact hg _ _ (hstep vs)
  · intro vs w hw hd hDs hLs
    rw [hA vs]
    exact htail vs w hw hd hDs hLs

end Go.Proofs.Ytkhfkmfofhnmdaa

namespace Go.Proofs.Ytkhfkmfofhnmdaa
open Go.RowKit Go.Shelf

/-- What an iterator is owed by a round: all blocks lie on but the loop's record l, and q. The loop is never left early. -/
def SeqOk {α : Type} (F : Fence) (n : Nat) (P : Program) (g : Nat) (lb : Array Value) (encs : α → Array Value) (q : Nat) (ok : α → Prop) (S : List α → Prop) (N : Nat) (w : World) : Prop :=
  ∀ (l : Nat) (J : List α → World → Prop) (W : World), Below w.heap.size w W → w.heap.size ≤ l → l < W.heap.size → TopFrom W.heap.size J →
    (∀ pre x W1, ok x → J pre W1 → pre.length < N → YieldAt F (n - 1) P l (encs x) W1 fun e W' => e = .returned (.bool true) ∧ J (pre ++ [x]) W' ∧ But l q W1 W') → J [] W →
    CallsIn F n P g (#[.func (.yield l) #[] #[]] ++ lb) W fun e W' => (∃ v, e = .returned v) ∧ ∃ xs, S xs ∧ J xs W'

variable {F : Fence} {n : Nat} {P : Program}

set_option maxHeartbeats 1000000 in
/-- A loop over such an iterator, which is never left early, and whose variables are no boxes. -/
theorem wpIn_range_ok {α : Type} {g : Operand} {ps : Array Tmp} {assign body : Code} {Q : Exit → Act → World → Prop} {a : Act} {w w0 : World} {q : Nat}
    (hro : F.round = none) (h1 : 1 ≤ n) {gf : Nat} {lb : Array Value} (hg : a.eval g = .func (.func gf) #[] lb) (hF : F.fn gf) (eg : ∀ args w, (callFunc gf args).run P w = .ok (.enter gf args) w)
    {encs : α → Array Value} {ok : α → Prop} {S : List α → Prop} {N : Nat} (hseq : SeqOk F (n - 1) P gf lb encs q ok S N w0) (hb0 : Below w0.heap.size w0 w) (hps : ∀ x, (encs x).size = ps.size) (hq : q < w.heap.size)
    (I : List α → World → Prop) (hI : TopFrom w.heap.size I) (h0 : I [] w)
    (Stt : α → Act → World → Prop) (hStt : ∀ x a' X Y row, Stt x a' X → X.grownBy Y row → (∀ r, row = some r → ∃ o : Obj, X.heap[r]? = some o ∧ o.isCells = false) → Stt x a' Y)
    (hassign : ∀ (l : Nat) (pre : List α) (x : α) (W : World) (K : Act → World → Prop), I pre W → (∀ a' W', W.grownBy W' none → Stt x a' W' → K a' W') → assign.wpIn (F.inRound l) (n - 1 - 1) P (Exit.then K (fun _ _ _ => False)) { tmps := (ps.zip (encs x)).foldl (fun t (p, v) => t.setIfInBounds p v) a.tmps, defers := [] } W)
    (hbody : ∀ (l : Nat) (pre : List α) (x : α) (a' : Act) (W : World), ok x → w.heap.size < l → I pre W → Stt x a' W → pre.length < N → body.wpIn (F.inRound l) (n - 1 - 1) P
      (fun e _ W' => e = .normal ∧ I (pre ++ [x]) W' ∧ W.grownBy W' (some q)) a' W)
    (hdone : ∀ (D : Nat) (xs : List α) (W : World), w.heap.size ≤ D → S xs → I xs W → W.heap[D]? = some (.deferred (some [])) → Q .normal { a with defers := { target := .collected D, args := #[] } :: a.defers } W) :
    (Code.rangeFunc g ps assign body).wpIn F n P Q a w := by
  apply wpIn_rangeFunc
  intro fn hfn
  rw [hro]
  obtain ⟨L, hL⟩ : ∃ L : LoopState → Loop, L = fun st => { state := st, pending := none, fn, tmps := a.tmps, params := ps, assign, body, defers := w.heap.size } := ⟨_, rfl⟩
  obtain ⟨W1, hW1⟩ : ∃ W1, W1 = (w.alloc (.deferred (some []))).alloc (.loop (L .ready)) := ⟨_, rfl⟩
  have hsz : W1.heap.size = w.heap.size + 2 := by rw [hW1]; simp
  have hl1 : W1.heap[w.heap.size + 1]? = some (.loop (L .ready)) := by
    have := World.alloc_heap_new (w.alloc (.deferred (some []))) (.loop (L .ready))
    rw [World.size_alloc] at this
    rw [hW1]; exact this
  have hd1 : W1.heap[w.heap.size]? = some (.deferred (some [])) := by rw [hW1]; exact (Below.heap_alloc _ _ _ (by simp)).trans (World.alloc_heap_new w _)
  have hbw : Below w.heap.size w W1 := by rw [hW1]; exact ((Below.refl _ w).alloc (Nat.le_refl _) _).alloc (by simp) _
  have hI1 : I [] W1 := hI _ _ _ none h0 (grown_of_below hbw) (by simp)
  have hb1 : Below w0.heap.size w0 W1 := hb0.trans (hbw.mono hb0.size)
  have hs0 := hb0.size
  refine ⟨w.heap.size + 1, [{ target := .collected w.heap.size, args := #[] }], W1, { target := .fn (.func gf) lb, args := #[.func (.yield (w.heap.size + 1)) #[] #[]] }, W1, gf,
    #[.func (.yield (w.heap.size + 1)) #[] #[]] ++ lb, W1, ?_, ?_, ?_, ?_, fun _ => h1, ?_⟩
  · rw [hW1, hL]; exact run_enterLoop_outer _ _ _ _ _
  · simp only [resolve, hg]
    simp [go_sem]
  · intro f' hf'; simp [Target.leads] at hf'; subst hf'; exact hF
  · simp [invoke, go_sem, eg]
  refine (hseq (w.heap.size + 1) (fun pre W => I pre W ∧ W.heap[w.heap.size + 1]? = some (.loop (L .ready)) ∧ W.heap[w.heap.size]? = some (.deferred (some []))) W1 hb1 (by omega) (by omega) ?_ ?_ ⟨hI1, hl1, hd1⟩).mono ?_
  · rintro s A B row ⟨hi, hl, hd⟩ hg' hr
    have hne : ∀ k o, A.heap[k]? = some o → k < W1.heap.size → B.heap[k]? = some o := fun k o ho hk => (hg'.block k (Array.getElem?_eq_some_iff.1 ho).1 (fun e => by have := hr k e.symm; omega)).trans ho
    exact ⟨hI s A B row hi hg' (fun r e => by have := hr r e; omega), hne _ _ hl (by omega), hne _ _ hd (by omega)⟩
  · rintro pre x W hok ⟨hi, hl, hd⟩ hlen
    have hlt : w.heap.size + 1 < W.heap.size := (Array.getElem?_eq_some_iff.1 hl).1
    have hy := run_yield (P := P) (args := encs x) hl (by rw [hL]; exact hps x)
    rw [hL] at hy
    refine ⟨fn, _, assign, body, hy, roundIn_of_wpIn hfn (hassign (w.heap.size + 1) pre x W _ hi ?_)⟩
    clear hy
    intro a' W' hg hst
    have hl' : W'.heap[w.heap.size + 1]? = some (.loop (L .ready)) := (hg.block _ hlt (by simp)).trans hl
    have hd' : W'.heap[w.heap.size]? = some (.deferred (some [])) := (hg.block _ (by omega) (by simp)).trans hd
    have hlt' : w.heap.size + 1 < W'.heap.size := Nat.lt_of_lt_of_le hlt hg.size
    have hi' : I pre W' := hI _ _ _ none hi hg (by simp)
    refine ⟨_, run_beginRound hl' (by rw [hL]), ?_⟩
    obtain ⟨W2, hW2⟩ : ∃ W2, W2 = W'.putObj (w.heap.size + 1) (.loop { L .ready with state := .busy }) := ⟨_, rfl⟩
    rw [← hW2]
    have hl2 : W2.heap[w.heap.size + 1]? = some (.loop { L .ready with state := .busy }) := by rw [hW2]; exact World.putObj_heap_same hlt'
    have hd2 : W2.heap[w.heap.size]? = some (.deferred (some [])) := by rw [hW2]; exact (World.putObj_heap_other (by omega)).trans hd'
    have hi2 : I pre W2 := by rw [hW2]; exact hI _ _ _ (some (w.heap.size + 1)) hi' (grownBy_putObj' _ _ _) (fun r e => by cases e; omega)
    have hst2 : Stt x a' W2 := by rw [hW2]; exact hStt _ _ _ _ (some (w.heap.size + 1)) hst (grownBy_putObj' _ _ _) (fun r e => by cases e; exact ⟨_, hl', rfl⟩)
    have hb2 : But (w.heap.size + 1) q W W2 := by rw [hW2]; exact (But.of_grown (grown_row hg)).trans (But.putObj _ _ _ _)
    refine wpIn_mono (hbody _ pre x a' W2 hok (by omega) hi2 hst2 hlen) ?_
    rintro e a3 W3 ⟨rfl, hi3, hg3⟩
    have hl3 := (hg3.block _ (Array.getElem?_eq_some_iff.1 hl2).1 (fun e => by have := Option.some.inj e; omega)).trans hl2
    have hd3 := (hg3.block _ (Array.getElem?_eq_some_iff.1 hd2).1 (fun e => by have := Option.some.inj e; omega)).trans hd2
    have hr3 := run_endRound (P := P) none hl3
    refine ⟨_, _, hr3, rfl, ⟨hI _ _ _ (some (w.heap.size + 1)) hi3 (grownBy_putObj' _ _ _) (fun r e => by cases e; omega), ?_, (World.putObj_heap_other (by omega)).trans hd3⟩, hb2.trans ((But.of_grown hg3).trans (But.putObj _ _ _ _))⟩
    rw [hL]
    exact World.putObj_heap_same (Array.getElem?_eq_some_iff.1 hl3).1
  · rintro e W2 ⟨⟨v, rfl⟩, xs, hS, hi, hl, hd⟩
    have := run_endLoop (P := P) hl (by rw [hL]; simp)
    rw [hL] at this
    exact ⟨none, _, this, hdone _ xs _ (Nat.le_refl _) hS (hI _ _ _ (some (w.heap.size + 1)) hi (grownBy_putObj' _ _ _) (fun r e => by cases e; omega)) ((World.putObj_heap_other (by omega)).trans hd)⟩

end Go.Proofs.Ytkhfkmfofhnmdaa

namespace Go.Proofs.Ytkhfkmfofhnmdaa
open Go.RowKit Go.Shelf
attribute [local go_sem] Oper.semAt_some

set_option maxRecDepth 100000 in
set_option maxHeartbeats 3000000 in
theorem agreeing1_ok (m : Nat) (hm : 4 ≤ m) (l Br q n : Nat) (ws : Int) (v1 v2 v3 v4 v5 : Value) (codes : List Int) (gs : List Gs) (wA w0 : World) (hA : Below wA.heap.size wA w0) (hc : IntsAt wA v4 codes) (hg : RowsAt wA v5 2 Gs.cells gs)
    (hn : 2 ≤ n) (hn2 : n ≤ 41) (hin : ∀ x ∈ gs, 0 ≤ x.a ∧ x.a < codes.length ∧ 0 ≤ x.p ∧ x.p ≤ 1000) (hR : Box w0 Br 118 #[iv n, iv ws, v1, v2, v3, v4, v5]) (hrq : Br ≠ q) (hqA : wA.heap.size ≤ q) (hq0 : q < w0.heap.size)
    (J : List Ky → World → Prop) (W : World) (hW : Below w0.heap.size w0 W) (hl0 : w0.heap.size ≤ l) (hl1 : l < W.heap.size) (hJ : TopFrom W.heap.size J)
    (hY : ∀ pre x W1, smallK x → J pre W1 → pre.length < at3 n (n - 1) 0 0 → YieldAt Fence.wide (m - 1) Try.prog l #[cogV n (undoI x.m n) x] W1 fun e W' => e = .returned (.bool true) ∧ J (pre ++ [x]) W' ∧ But l q W1 W') (h0 : J [] W) :
    CallsIn Fence.wide m Try.prog 114 #[.func (.yield l) #[] #[], .pointer (some ⟨Br, 0, none⟩)] W fun e W' => (∃ v, e = .returned v) ∧ ∃ xs, xs = agreeing n (agreeB n codes gs) (at3 n (n - 1) 0 0) ∧ J xs W' := by
  obtain ⟨_, A4, c4, rfl, _, _⟩ := hc.form
  obtain ⟨_, A5, c5, rfl, _, _⟩ := hg.form
  have hRl := hR.lt
  have hWs := hW.size
  have hAs := hA.size
  have HC := Lib.hid hc
  have HG := Lib.hid hg
  have HI := Lib.hid hin
  have HJ := Lib.hid hJ
  have HY := Lib.hid hY
  have HK : Hid (KeysI J (agreeB n codes gs) n wA W Br #[iv n, iv ws, v1, v2, v3, .slice A4 codes.length c4, .slice A5 gs.length c5] (at3 n 0 0 0) W) :=
    Lib.hid ⟨by simpa [at3, agreeing] using h0, hA.trans (hW.mono hAs), hR.below hW hRl, Nat.le_refl _⟩
  have hzn : (2 : Int) ≤ (n : Int) := by omega
  have hzn2 : (n : Int) ≤ 41 := by omega
  clear hc hg hin hJ hY hR hA hW h0
  refine callsIn_of_wp Try.func114 rfl trivial ?_ rfl
  simp only [Try.ntmps114, List.size_toArray, List.length_cons, List.length_nil, Nat.reduceAdd, Nat.reduceSub, Array.replicate_succ, Array.replicate_zero, List.push_toArray, List.append_toArray, List.nil_append, List.cons_append]
  have bR := HK.out.box
  have cR := fun i => bR.cell i
  gi_wp2_with fail
  clear cR bR
  gi_loopw [12] (fun i wr => ∃ x : Nat, x ≤ n - 1 ∧ i = .int .i64 x ∧ Hid (KeysI J (agreeB n codes gs) n wA W Br #[iv n, iv ws, v1, v2, v3, .slice A4 codes.length c4, .slice A5 gs.length c5] (at3 n x 0 0) wr)) (fun i _ => n - 1 - (intOf i).toNat)
  case atStart => exact ⟨0, by omega, rfl, HK⟩
  case round =>
    clear HK
    obtain ⟨x, hx, rfl, HK⟩ := hrel
    by_cases hlt : x < n - 1
    · have hlt' : (x : Int) < (n : Int) - 1 := by omega
      have bR := HK.out.box
      have cR := fun i => bR.cell i
      gi_wp2_with fail
      refine ⟨trivial, fun _ => by omega, ?_⟩
      refine (callsIn_wide.2 (newCog_any n ⟨(x : Int) + 1, 0, 0⟩ wr (by omega) (by simp only; omega))).mono ?_
      rintro e w1 ⟨rfl, hb1⟩
      obtain ⟨u, hu⟩ : ∃ u, undoI ((x : Int) + 1) n = u := ⟨_, rfl⟩
      have HU := Lib.hid hu
      simp only [hu]
      unfold cogV
      have HK1 := Lib.hid (HK.out.kept HJ.out hb1)
      have hs4 := HK1.out.size
      have bR1 := HK1.out.box
      have bR2 := bR1.alloc (.cells #[iv ((x : Int) + 1), iv 0, iv 0, iv n, iv u] 139)
      have cR1 := fun i => bR1.cell i
      have cR2 := fun i => bR2.cell i
      have lR1 := bR1.lt
      clear cR bR hu
      gi_wp2_with fail
      have HK2 := Lib.hid (HK1.out.kept HJ.out ((Below.refl _ w1).alloc (Nat.le_refl _) (.cells #[iv ((x : Int) + 1), iv 0, iv 0, iv n, iv u] 139)))
      have B4 : Box _ w1.heap.size 139 #[iv ((x : Int) + 1), iv 0, iv 0, iv n, iv u] := Box.new (w := w1) rfl
      clear cR1 cR2 bR1 bR2 HK HK1
      obtain ⟨n4, hn4⟩ : ∃ n4, w1.heap.size = n4 := ⟨_, rfl⟩
      rw [hn4] at hs4 lR1 B4 ⊢
      clear hn4
      have hRn : Br ≠ n4 := by omega
      have hnR : n4 ≠ Br := by omega
      have hln : n4 ≠ l := by omega
      have hqn : n4 ≠ q := by omega
      gi_loopw [27] (fun i wr => ∃ y : Nat, y ≤ n ∧ i = .int .i64 y ∧ Hid (KeysI J (agreeB n codes gs) n wA W Br #[iv n, iv ws, v1, v2, v3, .slice A4 codes.length c4, .slice A5 gs.length c5] (at3 n x y 0) wr) ∧ ∃ A S, Box wr n4 139 #[iv ((x : Int) + 1), iv A, iv S, iv n, iv u]) (fun i _ => n - (intOf i).toNat)
      case atStart => exact ⟨0, by omega, rfl, HK2, _, _, B4⟩
      case round =>
        clear HK2 B4
        obtain ⟨y, hy, rfl, HK, A, S, B4⟩ := hrel
        have bR := HK.out.box
        have cR := fun i => bR.cell i
        by_cases hlty : y < n
        · have hlty' : (y : Int) < (n : Int) := by omega
          gi_wp2_with fail
          clear cR bR
          gi_loopw [34] (fun i wr => ∃ z : Nat, z ≤ n ∧ i = .int .i64 z ∧ Hid (KeysI J (agreeB n codes gs) n wA W Br #[iv n, iv ws, v1, v2, v3, .slice A4 codes.length c4, .slice A5 gs.length c5] (at3 n x y z) wr) ∧ ∃ A S, Box wr n4 139 #[iv ((x : Int) + 1), iv A, iv S, iv n, iv u]) (fun i _ => n - (intOf i).toNat)
          case atStart => exact ⟨0, by omega, rfl, HK, _, _, B4⟩
          case round =>
            clear HK B4
            obtain ⟨z, hz, rfl, HK, A, S, B4⟩ := hrel
            by_cases hltz : z < n
            · have hltz' : (z : Int) < (n : Int) := by omega
              have HKs := Lib.hid ((HK.out.set (b := n4) (k := 1) (iv (y : Int)) HJ.out hs4 (by omega) (by omega)).set (b := n4) (k := 2) (iv (z : Int)) HJ.out hs4 (by omega) (by omega))
              have B4s : Box ((wr.setCell ⟨n4, 1, none⟩ (iv (y : Int))).setCell ⟨n4, 2, none⟩ (iv (z : Int))) n4 139 #[iv ((x : Int) + 1), iv (y : Int), iv (z : Int), iv n, iv u] := by simpa using ((B4.put 1 (iv (y : Int))).put 2 (iv (z : Int)))
              have bR := HKs.out.box
              have cR := fun i => bR.cell i
              have c4s := fun i => B4s.cell i
              have c4 := fun i => B4.cell i
              have f4 := fun i => B4.free i
              have l4 := B4.lt
              gi_wp2_with fail
              refine ⟨trivial, fun _ => by omega, ?_⟩
              refine (callsIn_wide.2 (agrees_any n u ws ⟨(x : Int) + 1, y, z⟩ v1 v2 v3 _ _ codes gs _ (HC.out.kept HKs.out.low) (HG.out.kept HKs.out.low) (by omega) ⟨by simp only; omega, by simp only; omega, by simp only; omega⟩ HI.out)).mono ?_
              rintro e w2 ⟨rfl, hb2⟩
              have HKey := Lib.hid (keyNo_at (x := x) hlty hltz)
              have HK2 := Lib.hid (HKs.out.kept HJ.out hb2)
              have B42 := B4s.kept hb2
              have c42 := fun i => B42.cell i
              clear cR bR c4s c4 f4 l4 B4s B4 HKs HK hb2
              cases hag : agreeB n codes gs ⟨(x : Int) + 1, y, z⟩ with
              | false =>
                have HAg := Lib.hid hag
                clear hag
                gi_wp2_with fail
                refine ⟨fun _ h => (by cases h), ?_⟩
                gi_wp2_with fail
                go_roundw
                case rel => exact ⟨z + 1, by omega, by go_num, by rw [← at3_z]; exact HK2.out.next (by rw [HKey.out]; exact HAg.out), _, _, B42⟩
                case measure => simp [intOf]; omega
              | true =>
                have HAg := Lib.hid hag
                obtain ⟨fn, tmps, assign, body, hy, hround⟩ := HY.out _ ⟨(x : Int) + 1, y, z⟩ w2 ⟨by simp only; omega, by simp only; omega, by simp only; omega⟩ HK2.out.j (Nat.lt_of_le_of_lt (agreeing_len _ _ _) (at3_lt hlt hlty hltz))
                simp only [cogV, HU.out] at hy
                have Hr := Lib.hid hround
                clear hround hag
                gi_wp2_with fail
                refine ⟨fun _ => by omega, ?_⟩
                refine Hr.out.mono ?_
                rintro e W3 ⟨rfl, hJ3, hBut⟩
                clear c42
                have B43 := hBut.box B42 hln hqn
                have HJ3 := Lib.hid hJ3
                have HB3 := Lib.hid hBut
                clear hJ3 hBut B42
                gi_wp2_with fail
                go_roundw
                case rel => exact ⟨z + 1, by omega, by go_num, by rw [← at3_z]; exact HK2.out.more (by rw [HKey.out]; exact HAg.out) (by rw [HKey.out]; exact HJ3.out) HB3.out (by omega) hqA (by omega) hrq, _, _, B43⟩
                case measure => simp [intOf]; omega
            · have hze : z = n := by omega
              subst hze
              gi_wp2_with fail
              go_roundw
              case rel => exact ⟨y + 1, by omega, by go_num, by rw [← at3_y]; exact HK, _, _, B4⟩
              case measure => simp [intOf]; omega
        · have hye : y = n := by omega
          subst hye
          gi_wp2_with fail
          go_roundw
          case rel => exact ⟨x + 1, by omega, by go_num, by rw [← at3_x]; exact HK⟩
          case measure => simp [intOf]; omega
    · have hxe : x = n - 1 := by omega
      subst hxe
      gi_wp2_with fail
      go_end0
      exact ⟨⟨_, rfl⟩, _, rfl, HK.out.j⟩

/-- **agreeing's value**: the keys that agree, in order. -/
theorem agreeing_seq (m : Nat) (hm : 4 ≤ m) (Br q n : Nat) (ws : Int) (v1 v2 v3 v4 v5 : Value) (codes : List Int) (gs : List Gs) (wA w0 : World) (hA : Below wA.heap.size wA w0) (hc : IntsAt wA v4 codes) (hg : RowsAt wA v5 2 Gs.cells gs)
    (hn : 2 ≤ n) (hn2 : n ≤ 41) (hin : ∀ x ∈ gs, 0 ≤ x.a ∧ x.a < codes.length ∧ 0 ≤ x.p ∧ x.p ≤ 1000) (hR : Box w0 Br 118 #[iv n, iv ws, v1, v2, v3, v4, v5]) (hrq : Br ≠ q) (hqA : wA.heap.size ≤ q) (hq0 : q < w0.heap.size) :
    SeqOk Fence.wide m Try.prog 114 #[.pointer (some ⟨Br, 0, none⟩)] (fun x : Ky => #[cogV n (undoI x.m n) x]) q smallK (fun xs => xs = agreeing n (agreeB n codes gs) (at3 n (n - 1) 0 0)) (at3 n (n - 1) 0 0) w0 := fun l J W hW hl0 hl1 hJ hY h0 =>
  agreeing1_ok m hm l Br q n ws v1 v2 v3 v4 v5 codes gs wA w0 hA hc hg hn hn2 hin hR hrq hqA hq0 J W hW hl0 hl1 hJ hY h0

end Go.Proofs.Ytkhfkmfofhnmdaa

namespace Go.Proofs.Ytkhfkmfofhnmdaa
open Go.RowKit Go.Shelf
attribute [local go_sem] Oper.semAt_some

def possB (n : Int) (c i : Int) (ks : List Ky) (j : Nat) : Bool := ks.any fun k => plainI n k c i == (j : Int)
/-- The plain numbers below m that a key makes of the code. -/
def possL (n : Int) (c i : Int) (ks : List Ky) (m : Nat) : List Int := ((List.range m).filter (possB n c i ks)).map fun j => ((j : Nat) : Int)
/-- Which plain numbers have been found. -/
def Marks (W : World) (q n : Nat) (c i : Int) (ks : List Ky) : Prop := ∃ cs : Array Value, Box W q 124 cs ∧ cs.size = 41 ∧ ∀ j : Nat, j < n → cs[j]? = some (.bool (possB n c i ks j))
theorem Marks.more {W : World} {q n : Nat} {c i : Int} {ks : List Ky} {x : Ky} {p : Nat} (h : Marks W q n c i ks) (hp : plainI n x c i = p) (hpn : p < n) (hn : n ≤ 41) : Marks (W.setCell ⟨q, p, none⟩ (.bool true)) q n c i (ks ++ [x]) := by
  obtain ⟨cs, hb, hs, h⟩ := h
  refine ⟨_, hb.put p (.bool true), by simpa using hs, fun j hj => ?_⟩
  rw [Array.getElem?_setIfInBounds]
  by_cases e : p = j
  · subst e
    rw [if_pos rfl, if_pos (by omega)]
    simp [possB, hp]
  · rw [if_neg e, h j hj]
    have e2 : (plainI n x c i == (j : Int)) = false := by rw [hp, beq_eq_false_iff_ne]; omega
    simp [possB, List.any_append, e2]
theorem Marks.kept {W W' : World} {q n : Nat} {c i : Int} {ks : List Ky} (h : Marks W q n c i ks) (hb : Below W.heap.size W W') : Marks W' q n c i ks := by
  obtain ⟨cs, h1, h2⟩ := h
  exact ⟨cs, h1.kept hb, h2⟩
theorem Marks.grown {W W' : World} {q n : Nat} {c i : Int} {ks : List Ky} {row : Option Nat} (h : Marks W q n c i ks) (hb : W.grownBy W' row) (hq : some q ≠ row) : Marks W' q n c i ks := by
  obtain ⟨cs, h1, h2⟩ := h
  exact ⟨cs, h1.grown hb hq, h2⟩
theorem possL_succ {n c i : Int} {ks : List Ky} {m : Nat} : possL n c i ks (m + 1) = possL n c i ks m ++ if possB n c i ks m then [(m : Int)] else [] := by
  unfold possL
  rw [List.range_succ, List.filter_append, List.map_append]
  by_cases h : possB n c i ks m = true <;> simp [h]
theorem possL_len (n c i : Int) (ks : List Ky) (m : Nat) : (possL n c i ks m).length ≤ m := by
  unfold possL
  have := List.length_filter_le (possB n c i ks) (List.range m)
  simpa using this

set_option maxRecDepth 100000 in
set_option maxHeartbeats 3000000 in
theorem possible_in (m : Nat) (hm : 6 ≤ m) (n i : Nat) (c ws : Int) (v1 v2 v3 v4 v5 : Value) (codes : List Int) (gs : List Gs) (w : World) (hc : IntsAt w v4 codes) (hg : RowsAt w v5 2 Gs.cells gs)
    (hn : 2 ≤ n) (hn2 : n ≤ 41) (hin : ∀ x ∈ gs, 0 ≤ x.a ∧ x.a < codes.length ∧ 0 ≤ x.p ∧ x.p ≤ 1000) (hi : codes[i]? = some c) (hi2 : i ≤ 1000) (hc2 : 0 ≤ c ∧ c ≤ 1000) :
    CallsIn Fence.wide m Try.prog 79 #[.agg #[iv n, iv ws, v1, v2, v3, v4, v5], iv i] w fun e w' => ∃ v, e = .returned v ∧ w'.ownsRow w.heap.size 3 1 v (possL n c i (agreeing n (agreeB n codes gs) (at3 n (n - 1) 0 0)) n).length ((possL n c i (agreeing n (agreeB n codes gs) (at3 n (n - 1) 0 0)) n).map iv) ∧ Below w.heap.size w w' := by
  obtain ⟨_, A4, c4, rfl, _, _⟩ := hc.form
  obtain ⟨_, A5, c5, rfl, _, _⟩ := hg.form
  have HC := Lib.hid hc
  have HG := Lib.hid hg
  have HI := Lib.hid hin
  have hN := at3_small hn2
  have h1 : 1 ≤ m := by omega
  clear hc hg hin
  refine callsIn_of_wp_marks Try.func79 rfl trivial ?_ rfl
  simp only [Try.ntmps79, List.size_toArray, List.length_cons, List.length_nil, Nat.reduceAdd, Nat.reduceSub, Array.replicate_succ, Array.replicate_zero, List.push_toArray, List.append_toArray, List.nil_append, List.cons_append]
  gi_wp2_with fail
  refine ⟨trivial, ?_⟩
  refine (callsIn_wide.2 (agreeing_any _ _ _ _ _ _ _ _)).mono ?_
  rintro e w1 ⟨Br, rfl, hR, hb, hBr⟩
  obtain ⟨RD, hRD⟩ : ∃ RD, #[iv n, iv ws, v1, v2, v3, .slice A4 codes.length c4, .slice A5 gs.length c5] = RD := ⟨_, rfl⟩
  have hB0 : Below w.heap.size w (((w.alloc (.cells #[iv n, iv ws, v1, v2, v3, .slice A4 codes.length c4, .slice A5 gs.length c5] 118)).alloc (.cells #[iv i] 3)).alloc (.cells (Array.replicate 41 (.bool false)) 124)) := up_alloc (up_alloc (up_alloc up0 _) _) _
  have hB1 : Below w.heap.size w w1 := up_later hB0 hb
  have bR : Box w1 w.heap.size 118 #[iv n, iv ws, v1, v2, v3, .slice A4 codes.length c4, .slice A5 gs.length c5] := (((Box.new (w := w) rfl).alloc _).alloc _).kept hb
  have bI : Box w1 (w.heap.size + 1) 3 #[iv i] := ((Box.new (w := w.alloc (.cells #[iv n, iv ws, v1, v2, v3, .slice A4 codes.length c4, .slice A5 gs.length c5] 118)) (by simp)).alloc _).kept hb
  have bQ : Box w1 (w.heap.size + 1 + 1) 124 (Array.replicate 41 (.bool false)) := (Box.new (w := (w.alloc (.cells #[iv n, iv ws, v1, v2, v3, .slice A4 codes.length c4, .slice A5 gs.length c5] 118)).alloc (.cells #[iv i] 3)) (by simp)).kept hb
  have hq := bQ.lt
  have hrq : Br ≠ w.heap.size + 1 + 1 := by simp at hBr; omega
  have M0 : Marks w1 (w.heap.size + 1 + 1) n c i [] := ⟨_, bQ, by simp, fun j hj => by rw [Array.getElem?_replicate, if_pos (by omega)]; simp [possB]⟩
  have hseq := agreeing_seq (m - 1) (by omega) Br (w.heap.size + 1 + 1) n ws v1 v2 v3 _ _ codes gs w w1 hB1 HC.out HG.out hn hn2 HI.out hR hrq (by omega) hq
  have HS := Lib.hid hseq
  clear hseq hR hrq hBr hb hB0 bQ hRD
  gi_wp2_with fail
  refine wpIn_range_ok rfl h1 (gf := 114) (lb := #[.pointer (some ⟨Br, 0, none⟩)]) rfl trivial callFunc_agreeing HS.out (Below.refl _ _) (fun _ => rfl) hq
    (fun pre W' => Marks W' (w.heap.size + 1 + 1) n c i pre ∧ Box W' w.heap.size 118 #[iv n, iv ws, v1, v2, v3, .slice A4 codes.length c4, .slice A5 gs.length c5] ∧ Box W' (w.heap.size + 1) 3 #[iv i] ∧ Below w.heap.size w W' ∧ w1.heap.size ≤ W'.heap.size) ?hI ⟨M0, bR, bI, hB1, Nat.le_refl _⟩
    (fun x a' W' => ∃ g, w1.heap.size ≤ g ∧ Box W' g 139 #[iv x.m, iv x.a, iv x.s, iv n, iv (undoI x.m n)] ∧ a' = { tmps := #[.agg #[iv n, iv ws, v1, v2, v3, .slice A4 codes.length c4, .slice A5 gs.length c5], iv i, .pointer (some ⟨w.heap.size, 0, none⟩), .pointer (some ⟨w.heap.size + 1, 0, none⟩), .slice none 0 0, .pointer (some ⟨w.heap.size + 1 + 1, 0, none⟩), .pointer (some ⟨g, 0, none⟩), undef, undef, .agg #[iv n, iv ws, v1, v2, v3, .slice A4 codes.length c4, .slice A5 gs.length c5], .func (.func 114) #[] #[.pointer (some ⟨Br, 0, none⟩)], cogV n (undoI x.m n) x, undef, undef, undef, undef, undef, undef, undef, undef, undef, undef, undef, undef, undef, undef, undef, undef, undef, undef, undef, undef, undef, undef, undef, undef, undef], defers := [] })
    ?hStt ?hassign ?hbody ?hdone
  case hI =>
    rintro s X Y row ⟨h1, h2, h3, h4, h5⟩ hg hr
    exact ⟨h1.grown hg (fun e => by have := hr _ e.symm; omega), h2.grown hg (fun e => by have := hr _ e.symm; omega), h3.grown hg (fun e => by have := hr _ e.symm; omega), h4.grown hg h4.size (fun k hk => by have := hr k hk; omega), Nat.le_trans h5 hg.size⟩
  case hStt =>
    rintro x a' X Y row ⟨g, h1, h2, h3⟩ hg hr
    refine ⟨g, h1, h2.grown hg (fun e => ?_), h3⟩
    obtain ⟨o, ho, hc⟩ := hr g e.symm
    rw [show X.heap[g]? = _ from h2] at ho
    cases ho
    cases hc
  case hassign =>
    rintro l pre x W K ⟨_, _, _, _, h5⟩ hK
    unfold cogV
    gi_wp2
    exact hK _ _ (grown_of_below ((Below.refl _ W).alloc (Nat.le_refl _) _)) ⟨_, h5, Box.new rfl, rfl⟩
  case hbody =>
    rintro l pre x a' W hok hl ⟨hM, N2, N3, b4, b5⟩ ⟨g, hg1, N6, rfl⟩ hlen
    unfold cogV
    obtain ⟨⟨k1, k2⟩, ⟨k3, k4⟩, k5, k6⟩ := hok
    have hu : 0 ≤ undoI x.m n ∧ undoI x.m n ≤ 1000 := by
      have := powI_in (m := x.m) (n := (n : Int)) (by omega) (by omega) ((n : Int) - 2).toNat
      unfold undoI
      omega
    obtain ⟨u, hu2⟩ : ∃ u, undoI x.m n = u := ⟨_, rfl⟩
    have HU := Lib.hid hu2
    rw [hu2] at N6 hu
    have HCW := Lib.hid (HC.out.kept b4)
    have HY := Lib.hid hi
    have hlen2 := HC.out.form.1
    obtain ⟨bl, ol, rfl, _, _⟩ := HC.out.at rfl hi
    have hil : i < codes.length := (List.getElem?_eq_some_iff.1 hi).1
    have i0 : (0 : Int) ≤ (i : Int) := by omega
    have i1 : (i : Int) < (codes.length : Int) := by omega
    have hp := plainI_in (n := (n : Int)) (k := x) (p := c) (i := i) (by omega)
    obtain ⟨p, hpp⟩ : ∃ p : Nat, plainI n x c i = p := ⟨(plainI n x c i).toNat, by omega⟩
    have HP := Lib.hid hpp
    rw [hpp] at hp
    have p0 : (0 : Int) ≤ (p : Int) := by omega
    have p1 : (p : Int) < 41 := by omega
    have hpn : p < n := by omega
    have HM := Lib.hid hM
    simp only [hu2]
    clear hM hpp hu2 hi hp
    gi_wp2_with fail
    apply wpIn_region_by 9 [(Fact.eq _), (Fact.eq _), (Fact.eq _), (Fact.eq _), (Fact.eq _), (Fact.eq _), (Fact.eq _), (Fact.eq (iv p)), (Fact.eq _)]
    case hm => kernel_rfl
    case hB => kernel_rfl
    case hpl => kernel_rfl
    case hA => (intro vs; simp only [List.take_succ_cons, List.take_zero, putAll, if_true, Act.put, List.setIfInBounds_toArray, List.set_cons_zero, List.set_cons_succ]; exact rfl)
    case hstep =>
      intro vs
      refine And.intro (fun w hw hd => ?_) ?_
      · refine ite_yes rfl ?_
        have c_N2 := fun i => (N2.kept hw).cell i
        have c_N3 := fun i => (N3.kept hw).cell i
        have c_N6 := fun i => (N6.kept hw).cell i
        simp only [Gives]
        go_simp
        exact ⟨Below.refl _ _, rfl, fun h => by cases h⟩
      refine And.intro (fun w hw hd => ?_) ?_
      · refine ite_yes rfl ?_
        simp only [Gives]
        go_simp
        exact ⟨Below.refl _ _, rfl, fun h => by cases h⟩
      refine And.intro (fun w hw hd => ?_) ?_
      · have d1 := hd 1 (by decide) rfl
        change vs 1 = _ at d1
        refine ite_yes rfl ?_
        have c_N2 := fun i => (N2.kept hw).cell i
        have c_N3 := fun i => (N3.kept hw).cell i
        have c_N6 := fun i => (N6.kept hw).cell i
        simp only [Gives]
        go_simp
        exact ⟨Below.refl _ _, rfl, fun h => by cases h⟩
      refine And.intro (fun w hw hd => ?_) ?_
      · refine ite_yes rfl ?_
        have c_N2 := fun i => (N2.kept hw).cell i
        have c_N3 := fun i => (N3.kept hw).cell i
        have c_N6 := fun i => (N6.kept hw).cell i
        have q0 : w.cell? ⟨bl, ol + i, none⟩ = some (.int .i64 c) := by simpa using (HCW.out.kept hw).cellAt HY.out (j := 0) rfl
        simp only [Gives]
        go_simp
        exact ⟨Below.refl _ _, rfl, fun h => by cases h⟩
      refine And.intro (fun w hw hd => ?_) ?_
      · have d2 := hd 2 (by decide) rfl
        change vs 2 = _ at d2
        have d3 := hd 3 (by decide) rfl
        change vs 3 = _ at d3
        refine ite_yes rfl ?_
        simp only [Gives]
        go_simp
        exact ⟨Below.refl _ _, rfl, fun h => by cases h⟩
      refine And.intro (fun w hw hd => ?_) ?_
      · have d4 := hd 4 (by decide) rfl
        change vs 4 = _ at d4
        refine ite_yes rfl ?_
        have c_N2 := fun i => (N2.kept hw).cell i
        have c_N3 := fun i => (N3.kept hw).cell i
        have c_N6 := fun i => (N6.kept hw).cell i
        have q0 : w.cell? ⟨bl, ol + i, none⟩ = some (.int .i64 c) := by simpa using (HCW.out.kept hw).cellAt HY.out (j := 0) rfl
        simp only [Gives]
        go_simp
        exact ⟨Below.refl _ _, rfl, fun h => by cases h⟩
      refine And.intro (fun w hw hd => ?_) ?_
      · refine ite_yes rfl ?_
        have c_N2 := fun i => (N2.kept hw).cell i
        have c_N3 := fun i => (N3.kept hw).cell i
        have c_N6 := fun i => (N6.kept hw).cell i
        have q0 : w.cell? ⟨bl, ol + i, none⟩ = some (.int .i64 c) := by simpa using (HCW.out.kept hw).cellAt HY.out (j := 0) rfl
        simp only [Gives]
        go_simp
        exact ⟨Below.refl _ _, rfl, fun h => by cases h⟩
      refine And.intro (fun w hw hd => ?_) ?_
      · have d0 := hd 0 (by decide) rfl
        change vs 0 = _ at d0
        have d5 := hd 5 (by decide) rfl
        change vs 5 = _ at d5
        have d6 := hd 6 (by decide) rfl
        change vs 6 = _ at d6
        refine ite_yes rfl ?_
        simp only [Gives]
        go_simp
        refine (plain_any n u x c i w (by omega) hu ⟨k3, k4⟩ ⟨k5, k6⟩ hc2 (by omega) HU.out.symm).mono ?_
        rintro e w7 ⟨rfl, hb⟩
        rw [HP.out]
        exact ⟨_, rfl, hb, rfl, fun h => by cases h⟩
      refine And.intro (fun w hw hd => ?_) ?_
      · have d7 := hd 7 (by decide) rfl
        change vs 7 = _ at d7
        refine ite_yes rfl ?_
        simp only [Gives]
        go_simp
        exact ⟨Below.refl _ _, rfl, fun h => by cases h⟩
      exact trivial
    intro vs wt hw hd hne hlo
    have d0 := hd 0 (by decide)
    change vs 0 = _ at d0
    have d1 := hd 1 (by decide)
    change vs 1 = _ at d1
    have d2 := hd 2 (by decide)
    change vs 2 = _ at d2
    have d3 := hd 3 (by decide)
    change vs 3 = _ at d3
    have d4 := hd 4 (by decide)
    change vs 4 = _ at d4
    have d5 := hd 5 (by decide)
    change vs 5 = _ at d5
    have d6 := hd 6 (by decide)
    change vs 6 = _ at d6
    have d7 := hd 7 (by decide)
    change vs 7 = _ at d7
    have d8 := hd 8 (by decide)
    change vs 8 = _ at d8
    simp only [d0, d1, d2, d3, d4, d5, d6, d8, List.drop_succ_cons, List.drop_zero]
    have N2 := N2.kept hw
    have N3 := N3.kept hw
    have N6 := N6.kept hw
    have c_N2 := fun i => N2.cell i
    have f_N2 := fun i => N2.free i
    have c_N3 := fun i => N3.cell i
    have f_N3 := fun i => N3.free i
    have c_N6 := fun i => N6.cell i
    have f_N6 := fun i => N6.free i
    clear hd hne hlo d0 d1 d2 d3 d4 d5 d6 d8
    obtain ⟨cs, Q1, Q2, Q3⟩ := HM.out.kept hw
    have cQ : wt.cell? ⟨w.heap.size + 1 + 1, p, none⟩ = some (.bool (possB n c i pre p)) := by rw [Q1.cell]; exact Q3 p hpn
    have fQ := fun i => Q1.free i
    have lQ := Q1.lt
    go_wp2_with fail
    exact ⟨⟨(HM.out.kept hw).more HP.out hpn hn2, N2.far (p := ⟨w.heap.size + 1 + 1, p, none⟩) (by simp; omega) _, N3.far (p := ⟨w.heap.size + 1 + 1, p, none⟩) (by simp) _, (b4.trans (hw.mono b4.size)).setCell (p := ⟨w.heap.size + 1 + 1, p, none⟩) (by simp; omega) _, by have := hw.size; omega⟩, grown_tr (grown_row (grown_of_below hw)) (grownBy_set _ _ _ _)⟩
  case hdone =>
    rintro D xs W hD hxs ⟨hM, N2, N3, b4, b5⟩ hd
    have HX := Lib.hid hxs
    clear hxs
    have hi2n : (n : Int) ≤ 41 := by omega
    have c2 := fun i => N2.cell i
    gi_wp2_with fail
    obtain ⟨i0, hi0, hz0, hz1, hz2⟩ := info_parts int_info
    have HM := Lib.hid hM
    clear c2 hM hi hc2
    gi_loopw [7, 25] (fun v j wr => ∃ k : Nat, k ≤ n ∧ j = .int .i64 k ∧ wr.ownsRow W.heap.size 3 1 v (possL n c i xs k).length ((possL n c i xs k).map iv) ∧ Hid (Below W.heap.size W wr)) (fun _ j _ => n - (intOf j).toNat)
    case atStart => exact ⟨0, by omega, rfl, by simpa [possL] using World.ownsRow_nil _ _ _ _, Lib.hid (Below.refl _ _)⟩
    case round =>
      obtain ⟨k, hk, rfl, HO0, HB⟩ := hrel
      have HO := Lib.hid HO0
      clear HO0
      by_cases hlt : k < n
      · have hlt' : (k : Int) < (n : Int) := by omega
        have k0 : (0 : Int) ≤ (k : Int) := by omega
        have k1 : (k : Int) < 41 := by omega
        have hll := possL_len n c i xs k
        obtain ⟨cs, Q1, Q2, Q3⟩ := HM.out.kept HB.out
        have cQ : wr.cell? ⟨w.heap.size + 1 + 1, k, none⟩ = some (.bool (possB n c i xs k)) := by rw [Q1.cell]; exact Q3 k hlt
        have lQ := Q1.lt
        obtain ⟨A8, p8, rfl⟩ := own_form' HO.out
        have HL := Lib.hid (possL_succ (n := n) (c := c) (i := i) (ks := xs) (m := k))
        have hsz := HB.out.size
        cases hb : possB n c i xs k with
        | true =>
          rw [hb] at cQ
          have HQ := Lib.hid hb
          clear hb Q1 Q2 Q3
          gi_wp2_with (gi_at_builtin; refine wpListIn_append_own _ rfl (.tmp 31) (.tmp 33) 23 rfl W.heap.size 3 i0 _ 1 8 Try.underlying23 hi0 hz0 hz1 hz2 rfl (by decide) _ _ _ rfl (HO.out.alloc _) ⟨wr.heap.size, 0, none⟩ 1 1 [iv k] rfl rfl (cell_one_new _ _ _) (by simp [Value.oneCell']) (by unfold maxLen; omega) (by omega) (by simp; omega) ?_; intro v' w3 hown' hgrow hnil; clear hnil)
          go_roundw
          case rel =>
            have hg2 : Below W.heap.size W w3 := Below.grown (up_alloc HB.out (.cells #[iv k] 3)) hgrow (by simp; omega) fun g e => ((HO.out.alloc (.cells #[iv k] 3)).lt g e).1
            refine ⟨k + 1, by omega, by go_num, ?_, Lib.hid hg2⟩
            rw [HL.out, HQ.out, if_pos rfl, List.length_append, List.map_append]
            exact hown'
          case measure => simp [intOf]; omega
        | false =>
          rw [hb] at cQ
          have HQ := Lib.hid hb
          clear hb Q1 Q2 Q3
          gi_wp2_with fail
          go_roundw
          case rel => exact ⟨k + 1, by omega, by go_num, by rw [HL.out, HQ.out]; simpa using HO.out, HB⟩
          case measure => simp [intOf]; omega
      · have hke : k = n := by omega
        subst hke
        gi_wp2_with fail
        have hdl : D < W.heap.size := (Array.getElem?_eq_some_iff.1 hd).1
        have hd2 : wr.heap[D]? = some (.deferred (some [])) := (HB.out.block D hdl).trans hd
        have hs1 := hB1.size
        refine ⟨by simp, .inl ⟨_, _, rfl, run_takeDeferred hd2, ?_⟩⟩
        refine ⟨_, results_tmp rfl _ _ _, _, rfl, ?_, (b4.trans (HB.out.mono b4.size)).trans (belowK_b (w := w) (Nat.le_refl _) wr D _ _ (by omega) hd2 rfl rfl)⟩
        rw [← HX.out]
        exact ownsRow_putObj (own_mono HO.out (by omega)) _ hd2 rfl

end Go.Proofs.Ytkhfkmfofhnmdaa

namespace Go.Proofs.Ytkhfkmfofhnmdaa
open Go.RowKit Go.Shelf
attribute [local go_sem] Oper.semAt_some

/-- All keys that agree. -/
def keysI (b : Bk) (codes : List Int) (gs : List Gs) : List Ky := agreeing b.n.toNat (agreeB b.n codes gs) (at3 b.n.toNat (b.n.toNat - 1) 0 0)
def possI (b : Bk) (codes : List Int) (gs : List Gs) (i : Nat) : List Int := possL b.n (codes.getD i 0) i (keysI b codes gs) b.n.toNat
def possE (b : Bk) (codes : List Int) (gs : List Gs) (a : Int) : List Int × Int :=
  if askE b codes gs ≠ 0 then ([], askE b codes gs) else if belowB a codes.length = false then ([], 2) else if possI b codes gs a.toNat = [] then ([], 11) else (possI b codes gs a.toNat, 0)

theorem possible_any (n i : Nat) (c ws : Int) (v1 v2 v3 v4 v5 : Value) (codes : List Int) (gs : List Gs) (w : World) (hc : IntsAt w v4 codes) (hg : RowsAt w v5 2 Gs.cells gs)
    (hn : 2 ≤ n) (hn2 : n ≤ 41) (hin : ∀ x ∈ gs, 0 ≤ x.a ∧ x.a < codes.length ∧ 0 ≤ x.p ∧ x.p ≤ 1000) (hi : codes[i]? = some c) (hi2 : i ≤ 1000) (hc2 : 0 ≤ c ∧ c ≤ 1000) :
    Calls Try.prog 79 #[.agg #[iv n, iv ws, v1, v2, v3, v4, v5], iv i] w fun e w' => ∃ v, e = .returned v ∧ w'.ownsRow w.heap.size 3 1 v (possL n c i (agreeing n (agreeB n codes gs) (at3 n (n - 1) 0 0)) n).length ((possL n c i (agreeing n (agreeB n codes gs) (at3 n (n - 1) 0 0)) n).map iv) ∧ Below w.heap.size w w' :=
  callsIn_wide.1 (possible_in 9 (by omega) n i c ws v1 v2 v3 v4 v5 codes gs w hc hg hn hn2 hin hi hi2 hc2)

theorem possible_book (b : Bk) (i : Nat) (v1 v2 v3 v4 v5 : Value) (codes : List Int) (gs : List Gs) (w : World) (hok : BookOK b) (hc : IntsAt w v4 codes) (hg : RowsAt w v5 2 Gs.cells gs) (hin : ∀ x ∈ gs, 0 ≤ x.a ∧ x.a < codes.length ∧ 0 ≤ x.p ∧ x.p ≤ 1000)
    (hi : i < codes.length) (hl : codes.length ≤ 10) (hcs : ∀ x ∈ codes, 0 ≤ x ∧ x < b.n) :
    Calls Try.prog 79 #[.agg #[iv b.n, iv b.w, v1, v2, v3, v4, v5], iv i] w fun e w' => ∃ v, e = .returned v ∧ w'.ownsRow w.heap.size 3 1 v (possI b codes gs i).length ((possI b codes gs i).map iv) ∧ Below w.heap.size w w' := by
  have hn1 := hok.n1
  have hn2 := hok.n2
  obtain ⟨n, hn⟩ : ∃ n : Nat, b.n = n := ⟨b.n.toNat, by omega⟩
  obtain ⟨c, hcc⟩ : ∃ c, codes[i]? = some c := ⟨_, List.getElem?_eq_getElem hi⟩
  have hc0 := hcs c (List.mem_of_getElem? hcc)
  have h := possible_any n i c b.w v1 v2 v3 v4 v5 codes gs w hc hg (by omega) (by omega) hin hcc (by omega) (by omega)
  have e : possL n c i (agreeing n (agreeB n codes gs) (at3 n (n - 1) 0 0)) n = possI b codes gs i := by
    unfold possI keysI
    rw [hn, Int.toNat_natCast, List.getD_eq_getElem?_getD, hcc]
    rfl
  rw [e, ← hn] at h
  exact h

set_option maxRecDepth 100000 in
set_option maxHeartbeats 1500000 in
theorem Possible_any (v1 v2 v4 v5 : Value) (b : Bk) (codes : List Int) (gs : List Gs) (a : Int) (w : World) (hL : BookAt w v1 v2 b) (hc : IntsAt w v4 codes) (hg : RowsAt w v5 2 Gs.cells gs) :
    Calls Try.prog 42 #[bookV b v1 v2, v4, v5, iv a] w fun e w' => ∃ v, e = .returned (.tuple #[v, iv (possE b codes gs a).2]) ∧ w'.ownsRow w.heap.size 3 1 v (possE b codes gs a).1.length ((possE b codes gs a).1.map iv) ∧ Below w.heap.size w w' := by
  obtain ⟨_, A1, cap1, rfl, _, _⟩ := hL.ks.form
  obtain ⟨_, A2, cap2, rfl, _, _⟩ := hL.ds.form
  obtain ⟨_, A4, cap4, rfl, _, _⟩ := hc.form
  obtain ⟨_, A5, cap5, rfl, _, _⟩ := hg.form
  have HL := Lib.hid hL
  have HC := Lib.hid hc
  have HG := Lib.hid hg
  clear hL hc hg
  by_cases c1 : askE b codes gs = 0
  case neg =>
    have C1 := Lib.hid c1
    have c1' : (askE b codes gs == 0) = false := by rw [beq_eq_false_iff_ne]; exact c1
    have Hfin := Lib.hid (show possE b codes gs a = ([], askE b codes gs) by unfold possE; rw [if_pos c1])
    rw [Hfin.out]
    clear c1
    unfold bookV
    go_enter Try.func42, Try.ntmps42
    go_wp2_with fail
    refine (read_any _ _ _ _ b codes gs _ (HL.out.kept (up_alloc up0 _)) (HC.out.kept (up_alloc up0 _)) (HG.out.kept (up_alloc up0 _))).mono ?_
    rintro e w1 ⟨rfl, hb⟩
    rw [if_neg C1.out]
    unfold riddle0
    have hB := up_later (up_alloc (up0 (w := w)) (.cells #[iv b.n, iv b.w, .slice A1 b.ks.length cap1, .slice A2 b.ds.length cap2] 32)) hb
    clear hb
    go_wp2_with fail
    go_ret2
    exact ⟨_, rfl, World.ownsRow_nil _ _ _ _, up_alloc hB _⟩
  have C1 := Lib.hid c1
  obtain ⟨hok, hcl, hgl, hci, hgi⟩ := askE_zero c1
  have hn1 := hok.n1
  have hn2 := hok.n2
  have HI := Lib.hid (show ∀ x ∈ gs, 0 ≤ x.a ∧ x.a < codes.length ∧ 0 ≤ x.p ∧ x.p ≤ 1000 from fun x hx => by have := hgi x hx; omega)
  have HOK := Lib.hid hok
  have HCI := Lib.hid hci
  clear hok hci hgi
  cases c2 : belowB a codes.length with
  | false =>
    have Hfin := Lib.hid (show possE b codes gs a = ([], 2) by unfold possE; rw [if_neg (by simpa using c1), if_pos c2])
    have C2 := Lib.hid c2
    rw [Hfin.out]
    clear c1 c2
    unfold bookV
    go_enter Try.func42, Try.ntmps42
    go_wp2_with fail
    refine (read_any _ _ _ _ b codes gs _ (HL.out.kept (up_alloc up0 _)) (HC.out.kept (up_alloc up0 _)) (HG.out.kept (up_alloc up0 _))).mono ?_
    rintro e w1 ⟨rfl, hb⟩
    rw [if_pos C1.out, C1.out]
    unfold riddleV
    have hB := up_later (up_alloc (up0 (w := w)) (.cells #[iv b.n, iv b.w, .slice A1 b.ks.length cap1, .slice A2 b.ds.length cap2] 32)) hb
    clear hb
    go_wp2_with fail
    have HB := Lib.hid (up_alloc hB (.cells #[iv b.n, iv b.w, .slice A1 b.ks.length cap1, .slice A2 b.ds.length cap2, .slice none 0 0, .slice A4 codes.length cap4, .slice A5 gs.length cap5] 118))
    have B1 := Lib.hid (Box.new (w := w1) (t := 118) (cs := #[iv b.n, iv b.w, .slice A1 b.ks.length cap1, .slice A2 b.ds.length cap2, .slice none 0 0, .slice A4 codes.length cap4, .slice A5 gs.length cap5]) rfl)
    clear hB
    refine (hasCode_any _ _ _ _ _ _ _ _ _ _ _).mono ?_
    rintro e w2 ⟨rfl, hb⟩
    rw [C2.out]
    have HB := Lib.hid (up_later HB.out hb)
    have B1 := Lib.hid (B1.out.kept hb)
    clear hb
    have BB := B1.out
    have cB := fun i => BB.cell i
    have fB := fun i => BB.free i
    have lB := BB.lt
    have mB := Nat.lt_succ_of_lt lB
    go_wp2_with fail
    clear cB fB lB mB BB
    go_ret2
    exact ⟨_, rfl, World.ownsRow_nil _ _ _ _, HB.out⟩
  | true =>
    have C2 := Lib.hid c2
    have ha := belowB_iff.1 c2
    obtain ⟨i, rfl⟩ : ∃ i : Nat, a = i := ⟨a.toNat, by omega⟩
    have hil : i < codes.length := by omega
    by_cases c3 : possI b codes gs i = []
    · have Hfin := Lib.hid (show possE b codes gs i = ([], 11) by unfold possE; rw [if_neg (by simpa using c1), if_neg (by rw [c2]; simp), Int.toNat_natCast, if_pos c3])
      have C3 := Lib.hid c3
      rw [Hfin.out]
      clear c1 c2 c3
      unfold bookV
      go_enter Try.func42, Try.ntmps42
      go_wp2_with fail
      refine (read_any _ _ _ _ b codes gs _ (HL.out.kept (up_alloc up0 _)) (HC.out.kept (up_alloc up0 _)) (HG.out.kept (up_alloc up0 _))).mono ?_
      rintro e w1 ⟨rfl, hb⟩
      rw [if_pos C1.out, C1.out]
      unfold riddleV
      have hB := up_later (up_alloc (up0 (w := w)) (.cells #[iv b.n, iv b.w, .slice A1 b.ks.length cap1, .slice A2 b.ds.length cap2] 32)) hb
      clear hb
      go_wp2_with fail
      have HB := Lib.hid (up_alloc hB (.cells #[iv b.n, iv b.w, .slice A1 b.ks.length cap1, .slice A2 b.ds.length cap2, .slice none 0 0, .slice A4 codes.length cap4, .slice A5 gs.length cap5] 118))
      have B1 := Lib.hid (Box.new (w := w1) (t := 118) (cs := #[iv b.n, iv b.w, .slice A1 b.ks.length cap1, .slice A2 b.ds.length cap2, .slice none 0 0, .slice A4 codes.length cap4, .slice A5 gs.length cap5]) rfl)
      clear hB
      refine (hasCode_any _ _ _ _ _ _ _ _ _ _ _).mono ?_
      rintro e w2 ⟨rfl, hb⟩
      rw [C2.out]
      have HB := Lib.hid (up_later HB.out hb)
      have B1 := Lib.hid (B1.out.kept hb)
      clear hb
      have BB := B1.out
      have cB := fun i => BB.cell i
      have fB := fun i => BB.free i
      have lB := BB.lt
      have mB := Nat.lt_succ_of_lt lB
      go_wp2_with fail
      clear cB fB lB mB BB
      refine (possible_book b i _ _ _ _ _ codes gs _ HOK.out (HC.out.kept HB.out) (HG.out.kept HB.out) HI.out hil hcl HCI.out).mono ?_
      rintro e w3 ⟨v, rfl, ho, hb⟩
      rw [C3.out] at ho
      obtain ⟨A8, p8, rfl⟩ := own_form' ho
      have hb2 := up_later HB.out hb
      clear ho hb
      go_wp2_with fail
      go_ret2
      exact ⟨_, rfl, World.ownsRow_nil _ _ _ _, hb2⟩
    · have Hfin := Lib.hid (show possE b codes gs i = (possI b codes gs i, 0) by unfold possE; rw [if_neg (by simpa using c1), if_neg (by rw [c2]; simp), Int.toNat_natCast, if_neg c3])
      have hpl : (possI b codes gs i).length ≤ 41 := Nat.le_trans (possL_len _ _ _ _ _) (by omega)
      have hp1 : 0 < (possI b codes gs i).length := List.length_pos_iff.2 c3
      rw [Hfin.out]
      clear c1 c2 c3
      unfold bookV
      go_enter Try.func42, Try.ntmps42
      go_wp2_with fail
      refine (read_any _ _ _ _ b codes gs _ (HL.out.kept (up_alloc up0 _)) (HC.out.kept (up_alloc up0 _)) (HG.out.kept (up_alloc up0 _))).mono ?_
      rintro e w1 ⟨rfl, hb⟩
      rw [if_pos C1.out, C1.out]
      unfold riddleV
      have hB := up_later (up_alloc (up0 (w := w)) (.cells #[iv b.n, iv b.w, .slice A1 b.ks.length cap1, .slice A2 b.ds.length cap2] 32)) hb
      clear hb
      go_wp2_with fail
      have HB := Lib.hid (up_alloc hB (.cells #[iv b.n, iv b.w, .slice A1 b.ks.length cap1, .slice A2 b.ds.length cap2, .slice none 0 0, .slice A4 codes.length cap4, .slice A5 gs.length cap5] 118))
      have B1 := Lib.hid (Box.new (w := w1) (t := 118) (cs := #[iv b.n, iv b.w, .slice A1 b.ks.length cap1, .slice A2 b.ds.length cap2, .slice none 0 0, .slice A4 codes.length cap4, .slice A5 gs.length cap5]) rfl)
      clear hB
      refine (hasCode_any _ _ _ _ _ _ _ _ _ _ _).mono ?_
      rintro e w2 ⟨rfl, hb⟩
      rw [C2.out]
      have HB := Lib.hid (up_later HB.out hb)
      have B1 := Lib.hid (B1.out.kept hb)
      clear hb
      have BB := B1.out
      have cB := fun i => BB.cell i
      have fB := fun i => BB.free i
      have lB := BB.lt
      have mB := Nat.lt_succ_of_lt lB
      go_wp2_with fail
      clear cB fB lB mB BB
      refine (possible_book b i _ _ _ _ _ codes gs _ HOK.out (HC.out.kept HB.out) (HG.out.kept HB.out) HI.out hil hcl HCI.out).mono ?_
      rintro e w3 ⟨v, rfl, ho, hb⟩
      have HO := Lib.hid (own_mono ho HB.out.size)
      obtain ⟨A8, p8, rfl⟩ := own_form' ho
      have hb2 := Lib.hid (up_later HB.out hb)
      clear ho hb
      obtain ⟨N, hN⟩ : ∃ N, (possI b codes gs i).length = N := ⟨_, rfl⟩
      rw [hN] at hpl hp1 ⊢
      have HN := Lib.hid hN
      have n0 : ((N : Int) == 0) = false := by rw [beq_eq_false_iff_ne]; omega
      clear hN
      go_wp2_with fail
      go_ret2
      exact ⟨_, rfl, HN.out ▸ HO.out, hb2.out⟩

end Go.Proofs.Ytkhfkmfofhnmdaa

namespace Go.Proofs.Ytkhfkmfofhnmdaa
open Go.RowKit Go.Shelf
attribute [local go_sem] Oper.semAt_some

theorem guess_info : (Try.prog.info? 74).map (fun i => (i.zero, i.size, i.bytes)) = some (some (.agg #[iv 0, iv 0]), 2, 16) := by kernel_rfl
theorem rguess_info : (Try.prog.info? 87).map (fun i => (i.zero, i.size, i.bytes)) = some (some (.agg #[iv 0, iv 0]), 2, 16) := by kernel_rfl
set_option maxRecDepth 100000 in
set_option maxHeartbeats 1000000 in
theorem Guesses_any (v : Value) (ls : List Gs) (w : World) (hl : RowsAt w v 2 Gs.cells ls) :
    Calls Try.prog 41 #[v] w fun e w' => ∃ u, e = .returned u ∧ RowsAt w' u 2 Gs.cells ls ∧ Below w.heap.size w w' := by
  obtain ⟨i1, hi1, hz10, hz11, hz12⟩ := info_parts guess_info
  obtain ⟨hn, A1, c1, rfl, _, _⟩ := hl.form
  have HL := Lib.hid hl
  clear hl
  go_enter Try.func41, Try.ntmps41
  go_wp2_with fail
  go_loopw [3, 4] (fun u i wr => ∃ k : Nat, k ≤ ls.length ∧ i = .int .i64 k ∧ Hid (wr.ownsRow w.heap.size 74 2 u k ((ls.take k).flatMap Gs.cells)) ∧ Hid (Below w.heap.size w wr)) (fun _ i _ => ls.length - (intOf i).toNat)
  case atStart => exact ⟨0, by omega, rfl, World.ownsRow_nil _ _ _ _, up0⟩
  case round =>
    obtain ⟨k, hk, rfl, HO, HB⟩ := hrel
    have hszB := HB.out.size
    have k0 : (0 : Int) ≤ (k : Int) := by omega
    by_cases hlt : k < ls.length
    · obtain ⟨x, hx⟩ : ∃ x, ls[k]? = some x := ⟨_, List.getElem?_eq_getElem hlt⟩
      have HR := Lib.hid (HL.out.kept HB.out)
      obtain ⟨b1, o1, rfl, _, _⟩ := HR.out.at rfl hx
      have k1 : (k : Int) < (ls.length : Int) := by omega
      have Hx := Lib.hid hx
      obtain ⟨Au, pu, rfl⟩ := own_form' HO.out
      clear hx
      go_wp2_with fail
      apply wp_region_by 13 [(Fact.eq _), (Fact.eq _), (Fact.eq _), (Fact.eq _), (Fact.eq _), (Fact.eq _), (Fact.eq _), (Fact.eq _), (Fact.eq _), (Fact.eq _), (Fact.eq _), (Fact.eq _), (Fact.sl 1 74 #[iv x.a, iv x.p])]
      case hm => kernel_rfl
      case hB => kernel_rfl
      case hA => (intro vs; simp only [List.take_succ_cons, List.take_zero, putAll, if_true, Act.put, List.setIfInBounds_toArray, List.set_cons_zero, List.set_cons_succ]; exact rfl)
      case hstep =>
        intro vs
        refine And.intro (fun w hw hd => ?_) ?_
        · refine ite_yes rfl ?_
          simp only [Gives]
          go_simp
          exact ⟨Below.refl _ _, rfl, fun h => by cases h⟩
        refine And.intro (fun w hw hd => ?_) ?_
        · refine ite_yes rfl ?_
          simp only [Gives]
          go_simp
          exact ⟨Below.refl _ _, rfl, fun h => by cases h⟩
        refine And.intro (fun w hw hd => ?_) ?_
        · refine ite_yes rfl ?_
          simp only [Gives]
          go_simp
          exact ⟨Below.refl _ _, rfl, fun h => by cases h⟩
        refine And.intro (fun w hw hd => ?_) ?_
        · have d1 := hd 1 (by decide) rfl
          change vs 1 = _ at d1
          have d2 := hd 2 (by decide) rfl
          change vs 2 = _ at d2
          refine ite_yes rfl ?_
          simp only [Gives]
          go_simp
          exact ⟨Below.refl _ _, rfl, fun h => by cases h⟩
        refine And.intro (fun w hw hd => ?_) ?_
        · have d3 := hd 3 (by decide) rfl
          change vs 3 = _ at d3
          refine ite_yes rfl ?_
          simp only [Gives]
          go_simp
          exact ⟨Below.refl _ _, rfl, fun h => by cases h⟩
        refine And.intro (fun w hw hd => ?_) ?_
        · have d4 := hd 4 (by decide) rfl
          change vs 4 = _ at d4
          refine ite_yes rfl ?_
          have q0 : w.cell? ⟨b1, o1 + k * 2, none⟩ = some (.int .i64 x.a) := (HR.out.kept hw).cellAt Hx.out (j := 0) rfl
          have q1 : w.cell? ⟨b1, o1 + k * 2 + 1, none⟩ = some (.int .i64 x.p) := (HR.out.kept hw).cellAt Hx.out (j := 1) rfl
          simp only [Gives]
          go_simp
          exact ⟨Below.refl _ _, rfl, fun h => by cases h⟩
        refine And.intro (fun w hw hd => ?_) ?_
        · refine ite_yes rfl ?_
          simp only [Gives]
          go_simp
          exact ⟨Below.refl _ _, rfl, fun h => by cases h⟩
        refine And.intro (fun w hw hd => ?_) ?_
        · refine ite_yes rfl ?_
          simp only [Gives]
          go_simp
          exact ⟨Below.refl _ _, rfl, fun h => by cases h⟩
        refine And.intro (fun w hw hd => ?_) ?_
        · have d6 := hd 6 (by decide) rfl
          change vs 6 = _ at d6
          have d7 := hd 7 (by decide) rfl
          change vs 7 = _ at d7
          refine ite_yes rfl ?_
          simp only [Gives]
          go_simp
          exact ⟨Below.refl _ _, rfl, fun h => by cases h⟩
        refine And.intro (fun w hw hd => ?_) ?_
        · have d8 := hd 8 (by decide) rfl
          change vs 8 = _ at d8
          refine ite_yes rfl ?_
          simp only [Gives]
          go_simp
          exact ⟨Below.refl _ _, rfl, fun h => by cases h⟩
        refine And.intro (fun w hw hd => ?_) ?_
        · have d9 := hd 9 (by decide) rfl
          change vs 9 = _ at d9
          refine ite_yes rfl ?_
          have q0 : w.cell? ⟨b1, o1 + k * 2, none⟩ = some (.int .i64 x.a) := (HR.out.kept hw).cellAt Hx.out (j := 0) rfl
          have q1 : w.cell? ⟨b1, o1 + k * 2 + 1, none⟩ = some (.int .i64 x.p) := (HR.out.kept hw).cellAt Hx.out (j := 1) rfl
          simp only [Gives]
          go_simp
          exact ⟨Below.refl _ _, rfl, fun h => by cases h⟩
        refine And.intro (fun w hw hd => ?_) ?_
        · have d5 := hd 5 (by decide) rfl
          change vs 5 = _ at d5
          have d10 := hd 10 (by decide) rfl
          change vs 10 = _ at d10
          refine ite_yes rfl ?_
          simp only [Gives]
          go_simp
          exact ⟨Below.refl _ _, rfl, fun h => by cases h⟩
        refine And.intro (fun w hw hd => ?_) ?_
        · have d11 := hd 11 (by decide) rfl
          change vs 11 = _ at d11
          refine ite_yes rfl ?_
          simp only [Gives]
          go_simp
          exact ⟨(Below.refl _ _).alloc (Nat.le_refl _) _, ⟨_, rfl, Box.new rfl⟩, fun h => by cases h⟩
        exact trivial
      intro vs wt hw hd hne hlo
      have d0 := hd 0 (by decide)
      change vs 0 = _ at d0
      have d1 := hd 1 (by decide)
      change vs 1 = _ at d1
      have d2 := hd 2 (by decide)
      change vs 2 = _ at d2
      have d3 := hd 3 (by decide)
      change vs 3 = _ at d3
      have d4 := hd 4 (by decide)
      change vs 4 = _ at d4
      have d5 := hd 5 (by decide)
      change vs 5 = _ at d5
      have d6 := hd 6 (by decide)
      change vs 6 = _ at d6
      have d7 := hd 7 (by decide)
      change vs 7 = _ at d7
      have d8 := hd 8 (by decide)
      change vs 8 = _ at d8
      have d9 := hd 9 (by decide)
      change vs 9 = _ at d9
      have d10 := hd 10 (by decide)
      change vs 10 = _ at d10
      have d11 := hd 11 (by decide)
      change vs 11 = _ at d11
      have d12 := hd 12 (by decide)
      obtain ⟨m8, d12, M8⟩ := d12
      simp only [d0, d1, d2, d3, d4, d5, d6, d7, d8, d9, d10, d11, List.drop_succ_cons, List.drop_zero]
      clear hd hne hlo d0 d1 d2 d3 d4 d5 d6 d7 d8 d9 d10 d11
      simp only [Nat.zero_add, Nat.reduceAdd, d12]
      clear d12
      have HO := Lib.hid (own_below HO.out hw)
      have hszw := hw.size
      go_wp2_with (at_builtin; refine wpList_append_own_at _ rfl (.tmp 11) (.tmp 23) 66 rfl w.heap.size 74 i1 (.agg #[iv 0, iv 0]) 2 16 Try.underlying66 hi1 hz10 hz11 hz12 rfl (by decide) _ _ _ rfl HO.out ⟨m8, 0, none⟩ 1 1 [iv x.a, iv x.p] rfl rfl (box_newsM M8) (by simp [Value.oneCell']) (by unfold maxLen; omega) (by omega) (by omega) ?_; intro v' w2 hown' hgrow _ _)
      go_roundw
      case rel =>
        refine ⟨k + 1, by omega, by go_num, ?_, (up_later HB.out hw).grown hgrow (by omega) fun g e => (HO.out.lt g e).1⟩
        rw [take_flat Hx.out]
        exact hown'
      case measure => simp [intOf]; omega
    · obtain rfl : k = ls.length := by omega
      go_wp2_with fail
      go_ret
      have ho := HO.out
      rw [List.take_length] at ho
      exact ⟨_, rfl, RowsAt.of_ownM (fun _ => rfl) ho rfl hn, HB.out⟩

set_option maxRecDepth 100000 in
set_option maxHeartbeats 1000000 in
theorem has_any (v : Value) (l : List Int) (n : Int) (w : World) (hl : IntsAt w v l) :
    Calls Try.prog 49 #[v, iv n] w fun e w' => e = .returned (.bool (l.any fun x => x == n)) ∧ Below w.heap.size w w' := by
  obtain ⟨_, A1, c1, rfl, _, _⟩ := hl.form
  have HL := Lib.hid hl
  clear hl
  go_enter Try.func49, Try.ntmps49
  go_wp2_with fail
  go_loopw [5] (fun i wr => ∃ k : Nat, k ≤ l.length ∧ i = .int .i64 k ∧ Hid (∀ x ∈ l.take k, (x == n) = false) ∧ Below w.heap.size w wr) (fun i _ => l.length - (intOf i).toNat)
  case atStart => exact ⟨0, by omega, rfl, by simp [Hid], up0⟩
  case round =>
    obtain ⟨k, hk, rfl, Hno, hB⟩ := hrel
    by_cases hlt : k < l.length
    · obtain ⟨x, hx⟩ : ∃ x, l[k]? = some x := ⟨_, List.getElem?_eq_getElem hlt⟩
      have k0 : (0 : Int) ≤ (k : Int) := by omega
      have k1 : (k : Int) < (l.length : Int) := by omega
      have HR := Lib.hid (HL.out.kept hB)
      obtain ⟨b1, o1, rfl, _, _⟩ := HR.out.at rfl hx
      have q0 : wr.cell? ⟨b1, o1 + k, none⟩ = some (.int .i64 x) := by simpa using HR.out.cellAt hx (j := 0) rfl
      have Hx := Lib.hid hx
      clear hx
      by_cases e1 : x = n
      · have d1 : (x == n) = true := by rw [beq_iff_eq]; exact e1
        have Hf := Lib.hid (show (l.any fun x => x == n) = true from List.any_eq_true.2 ⟨x, List.mem_of_getElem? Hx.out, d1⟩)
        clear e1
        go_wp2_with fail
        go_ret
        exact ⟨by rw [Hf.out]; rfl, hB⟩
      · have d1 : (x == n) = false := by rw [beq_eq_false_iff_ne]; exact e1
        have Hp := Lib.hid d1
        clear e1
        go_wp2_with fail
        go_roundw
        case rel => exact ⟨k + 1, by omega, by go_num, any_no Hno.out Hx.out Hp.out, hB⟩
        case measure => simp [intOf]; omega
    · have Hf := Lib.hid (show (l.any fun x => x == n) = false by
        rw [List.any_eq_false]
        intro y hy
        have a := Hno.out
        rw [List.take_of_length_le (by omega)] at a
        rw [a y hy]
        simp)
      go_wp2_with fail
      go_ret
      exact ⟨by rw [Hf.out]; rfl, hB⟩

end Go.Proofs.Ytkhfkmfofhnmdaa

namespace Go.Proofs.Ytkhfkmfofhnmdaa
open Go.RowKit Go.Shelf
attribute [local go_sem] Oper.semAt_some

/-- At most six guesses, each of which is true of one of the first k numbers. -/
def GoodGs (l : List Int) (k : Nat) (gs : List Gs) : Prop := gs.length ≤ 6 ∧ ∀ g ∈ gs, ∃ j : Nat, j < k ∧ g.a = j ∧ l[j]? = some g.p
theorem GoodGs.next {l : List Int} {k : Nat} {gs : List Gs} (h : GoodGs l k gs) : GoodGs l (k + 1) gs := ⟨h.1, fun g hg => by
  obtain ⟨j, hj, h2⟩ := h.2 g hg
  exact ⟨j, by omega, h2⟩⟩
theorem GoodGs.more {l : List Int} {k : Nat} {gs : List Gs} {x : Int} (h : GoodGs l k gs) (hx : l[k]? = some x) (h6 : gs.length < 6) : GoodGs l (k + 1) (gs ++ [⟨k, x⟩]) := ⟨by simp; omega, fun g hg => by
  rcases List.mem_append.1 hg with hg | hg
  · exact h.next.2 g hg
  · obtain rfl := List.mem_singleton.1 hg
    exact ⟨k, by omega, rfl, hx⟩⟩
set_option maxRecDepth 100000 in
set_option maxHeartbeats 1000000 in
theorem Guessed_any (A1 A2 : Option Addr) (n1 n2 c1 c2 : Nat) (v : Value) (n ws bits : Int) (ky : Ky) (l : List Int) (w : World) (hn : 1 ≤ n ∧ n ≤ 41) (hsm : smallK ky) (hl : IntsAt w v l) (hin : ∀ x ∈ l, 0 ≤ x ∧ x < n) (hl10 : l.length ≤ 10) :
    Calls Try.prog 48 #[.agg #[iv n, iv ws, .slice A1 n1 c1, .slice A2 n2 c2], .agg #[iv ky.m, iv ky.a, iv ky.s], v, .int .u16 bits] w fun r w' => ∃ u t gs, r = .returned (.tuple #[u, t]) ∧ IntsAt w' u (codesI n ky 0 l) ∧ RowsAt w' t 2 Gs.cells gs ∧ GoodGs l l.length gs ∧ Below w.heap.size w w' := by
  obtain ⟨i0, hi0, hz0, hz1, hz2⟩ := info_parts int_info
  obtain ⟨i1, hi1, hz10, hz11, hz12⟩ := info_parts rguess_info
  obtain ⟨_, A4, cap4, rfl, _, _⟩ := hl.form
  obtain ⟨C, hC⟩ : ∃ C, codesI n ky 0 l = C := ⟨_, rfl⟩
  have hCl : C.length = l.length := by rw [← hC, codesI_len]
  have HCat := Lib.hid (show ∀ (i : Nat) (x : Int), l[i]? = some x → C[i]? = some (codeI n ky x i) from fun i x h => by rw [← hC]; exact codes_at h)
  have HV := Lib.hid hl
  have HI := Lib.hid hin
  have HC := Lib.hid hC
  have HCl := Lib.hid hCl
  have Hsm := Lib.hid hsm
  clear hl hin hC hCl hsm
  go_enter Try.func48, Try.ntmps48
  go_wp2_with fail
  go_loopw [10, 11, 12] (fun u t i wr => ∃ k : Nat, k ≤ l.length ∧ i = .int .i64 k ∧ ∃ gs, Hid (GoodGs l k gs) ∧ gs.length ≤ 6 ∧ Hid (wr.ownsRow w.heap.size 3 1 u k ((C.take k).map iv)) ∧ Hid (wr.ownsRow w.heap.size 87 2 t gs.length (gs.flatMap Gs.cells)) ∧ Hid (Box wr w.heap.size 25 #[iv n, iv ws, .slice A1 n1 c1, .slice A2 n2 c2]) ∧ Hid (Box wr (w.heap.size + 1) 85 #[iv ky.m, iv ky.a, iv ky.s]) ∧ Hid (Below w.heap.size w wr)) (fun _ _ i _ => l.length - (intOf i).toNat)
  case atStart => exact ⟨0, by omega, rfl, [], Lib.hid ⟨by simp, fun _ h => by cases h⟩, by simp, World.ownsRow_nil _ _ _ _, World.ownsRow_nil _ _ _ _, (Box.new rfl).alloc _, Box.new (by simp), up_alloc (up_alloc up0 _) _⟩
  case round =>
    obtain ⟨k, hk, rfl, gs, HGG, hgl, HO, HO2, B1, B2, HB⟩ := hrel
    have hszB := HB.out.size
    have N := B1.out
    have N2 := B2.out
    have k0 : (0 : Int) ≤ (k : Int) := by omega
    obtain ⟨Au, pu, rfl⟩ := own_form' HO.out
    obtain ⟨At, pt, rfl⟩ := own_form' HO2.out
    by_cases hlt : k < l.length
    · obtain ⟨x, hx⟩ : ∃ x, l[k]? = some x := ⟨_, List.getElem?_eq_getElem hlt⟩
      have HR := Lib.hid (HV.out.kept HB.out)
      obtain ⟨b1, o1, rfl, _, _⟩ := HR.out.at rfl hx
      have k1 : (k : Int) < (l.length : Int) := by omega
      have Hx := Lib.hid hx
      have hxi := HI.out x (List.mem_of_getElem? hx)
      obtain ⟨c, hc⟩ : ∃ c, codeI n ky x k = c := ⟨_, rfl⟩
      have Hc := Lib.hid hc
      have HCk := Lib.hid (HCat.out k x hx)
      clear hx hc
      go_wp2_with fail
      apply wp_region_by 10 [(Fact.eq _), (Fact.eq _), (Fact.eq _), (Fact.eq _), (Fact.eq _), (Fact.eq _), (Fact.eq _), (Fact.eq _), (Fact.eq (iv c)), (Fact.sl 1 3 #[iv c])]
      case hm => kernel_rfl
      case hB => kernel_rfl
      case hA => (intro vs; simp only [List.take_succ_cons, List.take_zero, putAll, if_true, Act.put, List.setIfInBounds_toArray, List.set_cons_zero, List.set_cons_succ]; exact rfl)
      case hstep =>
        intro vs
        refine And.intro (fun w hw hd => ?_) ?_
        · refine ite_yes rfl ?_
          simp only [Gives]
          go_simp
          exact ⟨Below.refl _ _, rfl, fun h => by cases h⟩
        refine And.intro (fun w hw hd => ?_) ?_
        · refine ite_yes rfl ?_
          have c_N := fun i => (N.kept hw).cell i
          have c_N2 := fun i => (N2.kept hw).cell i
          simp only [Gives]
          go_simp
          exact ⟨Below.refl _ _, rfl, fun h => by cases h⟩
        refine And.intro (fun w hw hd => ?_) ?_
        · refine ite_yes rfl ?_
          have c_N := fun i => (N.kept hw).cell i
          have c_N2 := fun i => (N2.kept hw).cell i
          simp only [Gives]
          go_simp
          exact ⟨Below.refl _ _, rfl, fun h => by cases h⟩
        refine And.intro (fun w hw hd => ?_) ?_
        · refine ite_yes rfl ?_
          simp only [Gives]
          go_simp
          exact ⟨Below.refl _ _, rfl, fun h => by cases h⟩
        refine And.intro (fun w hw hd => ?_) ?_
        · refine ite_yes rfl ?_
          simp only [Gives]
          go_simp
          exact ⟨Below.refl _ _, rfl, fun h => by cases h⟩
        refine And.intro (fun w hw hd => ?_) ?_
        · have d3 := hd 3 (by decide) rfl
          change vs 3 = _ at d3
          have d4 := hd 4 (by decide) rfl
          change vs 4 = _ at d4
          refine ite_yes rfl ?_
          simp only [Gives]
          go_simp
          exact ⟨Below.refl _ _, rfl, fun h => by cases h⟩
        refine And.intro (fun w hw hd => ?_) ?_
        · have d5 := hd 5 (by decide) rfl
          change vs 5 = _ at d5
          refine ite_yes rfl ?_
          have c_N := fun i => (N.kept hw).cell i
          have c_N2 := fun i => (N2.kept hw).cell i
          have q0 : w.cell? ⟨b1, o1 + k, none⟩ = some (.int .i64 x) := by simpa using (HR.out.kept hw).cellAt Hx.out (j := 0) rfl
          simp only [Gives]
          go_simp
          exact ⟨Below.refl _ _, rfl, fun h => by cases h⟩
        refine And.intro (fun w hw hd => ?_) ?_
        · refine ite_yes rfl ?_
          simp only [Gives]
          go_simp
          exact ⟨Below.refl _ _, rfl, fun h => by cases h⟩
        refine And.intro (fun w hw hd => ?_) ?_
        · have d1 := hd 1 (by decide) rfl
          change vs 1 = _ at d1
          have d2 := hd 2 (by decide) rfl
          change vs 2 = _ at d2
          have d6 := hd 6 (by decide) rfl
          change vs 6 = _ at d6
          have d7 := hd 7 (by decide) rfl
          change vs 7 = _ at d7
          refine ite_yes rfl ?_
          simp only [Gives]
          go_simp
          refine (RCodeOf_any n ws _ _ ky x k w (by omega) Hsm.out (by omega) (by omega)).mono ?_
          rintro e w7 ⟨rfl, hb⟩
          rw [Hc.out]
          exact ⟨_, rfl, hb, rfl, fun h => by cases h⟩
        refine And.intro (fun w hw hd => ?_) ?_
        · have d8 := hd 8 (by decide) rfl
          change vs 8 = _ at d8
          refine ite_yes rfl ?_
          simp only [Gives]
          go_simp
          exact ⟨(Below.refl _ _).alloc (Nat.le_refl _) _, ⟨_, rfl, Box.new rfl⟩, fun h => by cases h⟩
        exact trivial
      intro vs wt hw hd hne hlo
      have d0 := hd 0 (by decide)
      change vs 0 = _ at d0
      have d1 := hd 1 (by decide)
      change vs 1 = _ at d1
      have d2 := hd 2 (by decide)
      change vs 2 = _ at d2
      have d3 := hd 3 (by decide)
      change vs 3 = _ at d3
      have d4 := hd 4 (by decide)
      change vs 4 = _ at d4
      have d5 := hd 5 (by decide)
      change vs 5 = _ at d5
      have d6 := hd 6 (by decide)
      change vs 6 = _ at d6
      have d7 := hd 7 (by decide)
      change vs 7 = _ at d7
      have d8 := hd 8 (by decide)
      change vs 8 = _ at d8
      have d9 := hd 9 (by decide)
      obtain ⟨m8, d9, M8⟩ := d9
      simp only [d0, d1, d2, d3, d4, d5, d6, d7, List.drop_succ_cons, List.drop_zero]
      have N := N.kept hw
      have N2 := N2.kept hw
      have c_N := fun i => N.cell i
      have f_N := fun i => N.free i
      have c_N2 := fun i => N2.cell i
      have f_N2 := fun i => N2.free i
      clear hd hne hlo d0 d1 d2 d3 d4 d5 d6 d7
      simp only [Nat.zero_add, Nat.reduceAdd, d8, d9]
      have HO := Lib.hid (own_below HO.out hw)
      have HO2 := Lib.hid (own_below HO2.out hw)
      have hszw := hw.size
      go_upto_region 7 with (at_builtin; refine wpList_append_own_at _ rfl (.tmp 19) (.tmp 28) 23 rfl w.heap.size 3 i0 _ 1 8 Try.underlying23 hi0 hz0 hz1 hz2 rfl (by decide) _ _ _ rfl HO.out ⟨m8, 0, none⟩ 1 1 [iv c] rfl rfl (box_newsM M8) (by simp [Value.oneCell']) (by unfold maxLen; omega) (by omega) (by omega) ?_; intro v' w2 hown' hgrow hnil _)
      clear hnil
      have e : (C.take (k + 1)).map iv = (C.take k).map iv ++ [iv c] := by
        rw [List.take_add_one, HCk.out, Hc.out]
        simp
      rw [← e] at hown'
      have B1 := Lib.hid (N.grown hgrow (box_not_own N (by decide) HO.out))
      have B2 := Lib.hid (N2.grown hgrow (box_not_own N2 (by decide) HO.out))
      have HO2 := Lib.hid (own_other HO2.out HO.out (by decide) hgrow)
      have HB := Lib.hid ((up_later HB.out hw).grown hgrow (by omega) fun g e => (HO.out.lt g e).1)
      have HO := Lib.hid hown'
      have HR := Lib.hid (HV.out.kept HB.out)
      have hsz2 := HB.out.size
      clear hown' hgrow hw hszw e N N2 c_N f_N c_N2 f_N2 d8 d9 M8
      have q0 : w2.cell? ⟨b1, o1 + k, none⟩ = some (.int .i64 x) := by simpa using HR.out.cellAt Hx.out (j := 0) rfl
      by_cases t1 : (bits / 2 ^ k).tmod 2 = 1
      · by_cases h6 : gs.length < 6
        · have h6' : (gs.length : Int) < 6 := by omega
          have HG2 := Lib.hid (HGG.out.more Hx.out h6)
          go_wp2_with (at_builtin; refine wpList_append_own_at _ rfl (.tmp 41) (.tmp 48) 63 rfl w.heap.size 87 i1 (.agg #[iv 0, iv 0]) 2 16 (show Try.prog.underlying 63 = some (.slice 87) by kernel_rfl) hi1 hz10 hz11 hz12 rfl (by decide) _ _ _ rfl (HO2.out.alloc _) ⟨w2.heap.size, 0, none⟩ 1 1 [iv k, iv x] rfl rfl (box_newsM (Box.new (w := w2) (t := 87) (cs := #[iv (k : Int), iv x]) rfl)) (by simp [Value.oneCell']) (by unfold maxLen; omega) (by omega) (by simp; omega) ?_; intro v3 w3 hown3 hgrow3 hnil3 _; clear hnil3)
          go_roundw
          case rel =>
            have O1 := HO.out.alloc (.cells #[iv k, iv x] 87)
            have O2 := HO2.out.alloc (.cells #[iv k, iv x] 87)
            refine ⟨k + 1, by omega, by go_num, gs ++ [⟨k, x⟩], HG2, by simp; omega, Lib.hid (own_other O1 O2 (by decide) hgrow3), Lib.hid ?_, Lib.hid ((B1.out.alloc _).grown hgrow3 (box_not_own (B1.out.alloc _) (by decide) O2)), Lib.hid ((B2.out.alloc _).grown hgrow3 (box_not_own (B2.out.alloc _) (by decide) O2)), Lib.hid ((up_alloc HB.out _).grown hgrow3 (by simp; omega) fun g e => (O2.lt g e).1)⟩
            rw [List.flatMap_append, List.length_append]
            exact hown3
          case measure => simp [intOf]; omega
        · have h6' : ¬ (gs.length : Int) < 6 := by omega
          go_wp2_with fail
          go_roundw
          case rel => exact ⟨k + 1, by omega, by go_num, gs, HGG.out.next, hgl, HO, HO2, B1, B2, HB⟩
          case measure => simp [intOf]; omega
      · go_wp2_with fail
        go_roundw
        case rel => exact ⟨k + 1, by omega, by go_num, gs, HGG.out.next, hgl, HO, HO2, B1, B2, HB⟩
        case measure => simp [intOf]; omega
    · obtain rfl : k = l.length := by omega
      go_wp2_with fail
      go_ret2
      have ho := HO.out
      rw [show C.take l.length = C by rw [← HCl.out]; exact List.take_length] at ho
      rw [HC.out]
      exact ⟨_, _, gs, rfl, ints_of_own ho HCl.out.symm (by have := HCl.out; omega), RowsAt.of_ownM (fun _ => rfl) HO2.out rfl (by omega), HGG.out, HB.out⟩
end Go.Proofs.Ytkhfkmfofhnmdaa

namespace Go.Proofs.Ytkhfkmfofhnmdaa
open Go.RowKit Go.Shelf

theorem poss_all {n c i x : Int} {ks : List Ky} {k : Ky} (hk : k ∈ ks) (hall : ∀ q ∈ ks, plainI n q c i = x) (hx : 0 ≤ x) : ∀ m : Nat, possL n c i ks m = if x < m then [x] else []
  | 0 => by rw [if_neg (by omega)]; rfl
  | m + 1 => by
    rw [possL_succ, poss_all hk hall hx m]
    have hb : possB n c i ks m = (x == (m : Int)) := by
      unfold possB
      cases h : (x == (m : Int)) with
      | true => exact List.any_eq_true.2 ⟨k, hk, by rw [hall k hk]; exact h⟩
      | false =>
        rw [List.any_eq_false]
        intro q hq
        rw [hall q hq, h]
        simp
    rw [hb]
    by_cases e : x = m
    · subst e
      rw [if_neg (by omega), if_pos (show (m : Int) < ((m + 1 : Nat) : Int) by omega)]
      simp
    · have e2 : (x == (m : Int)) = false := by rw [beq_eq_false_iff_ne]; exact e
      rw [e2]
      simp only [Bool.false_eq_true, if_false, List.append_nil]
      by_cases e3 : x < m
      · rw [if_pos e3, if_pos (by omega)]
      · rw [if_neg e3, if_neg (by omega)]
theorem possL_mem {n c i : Int} {ks : List Ky} {m : Nat} {x : Int} : x ∈ possL n c i ks m ↔ ∃ j : Nat, j < m ∧ x = j ∧ ∃ k ∈ ks, plainI n k c i = x := by
  unfold possL possB
  simp only [List.mem_map, List.mem_filter, List.mem_range, List.any_eq_true, beq_iff_eq]
  constructor
  · rintro ⟨j, ⟨hj, k, hk, e⟩, rfl⟩
    exact ⟨j, hj, rfl, k, hk, e⟩
  · rintro ⟨j, hj, rfl, k, hk, e⟩
    exact ⟨j, ⟨hj, k, hk, e⟩, rfl⟩
theorem keyNo_in {n i : Nat} (hn : 0 < n) (hi : i < at3 n (n - 1) 0 0) : 0 < (keyNo n i).m ∧ (keyNo n i).m < n ∧ 0 ≤ (keyNo n i).a ∧ (keyNo n i).a < n ∧ 0 ≤ (keyNo n i).s ∧ (keyNo n i).s < n := by
  unfold at3 at hi
  have h1 : i / (n * n) < n - 1 := Nat.div_lt_of_lt_mul (by rw [Nat.mul_comm]; omega)
  have h2 := Nat.mod_lt (i / n) hn
  have h3 := Nat.mod_lt i hn
  unfold keyNo
  generalize i / (n * n) = A at *
  generalize i / n % n = B at *
  generalize i % n = C at *
  simp only
  omega
theorem keysI_mem {b : Bk} {codes : List Int} {gs : List Gs} {k : Ky} (hok : BookOK b) (h : k ∈ keysI b codes gs) : (0 < k.m ∧ k.m < b.n) ∧ agreeB b.n codes gs k = true := by
  unfold keysI agreeing at h
  obtain ⟨h, ha⟩ := List.mem_filter.1 h
  obtain ⟨i, hi, rfl⟩ := List.mem_map.1 h
  have hn := hok.n1
  have := keyNo_in (n := b.n.toNat) (by omega) (List.mem_range.1 hi)
  exact ⟨by omega, ha⟩
theorem mem_keysI {b : Bk} {codes : List Int} {gs : List Gs} {k : Ky} (hok : BookOK b) (hk : 0 < k.m ∧ k.m < b.n ∧ 0 ≤ k.a ∧ k.a < b.n ∧ 0 ≤ k.s ∧ k.s < b.n) (ha : agreeB b.n codes gs k = true) : k ∈ keysI b codes gs := by
  have hn := hok.n1
  obtain ⟨m, a, s⟩ := k
  simp only at hk
  unfold keysI agreeing
  refine List.mem_filter.2 ⟨List.mem_map.2 ⟨at3 b.n.toNat (m.toNat - 1) a.toNat s.toNat, List.mem_range.2 (at3_lt (by omega) (by omega) (by omega)), ?_⟩, ha⟩
  rw [keyNo_at (by omega) (by omega)]
  congr 1 <;> omega

section
variable {b : Bk} {k : Ky} {l : List Int} {gs : List Gs}
theorem true_agrees (hg : GoodGs l l.length gs) : agreeB b.n (codesI b.n k 0 l) gs k = true := by
  unfold agreeB
  rw [List.all_eq_true]
  intro g hg'
  obtain ⟨j, _, hj, hx⟩ := hg.2 g hg'
  rw [beq_iff_eq, hj, Int.toNat_natCast, List.getD_eq_getElem?_getD, codes_at hx]
  rfl
theorem true_asks (hr : readyB' b l) (hg : GoodGs l l.length gs) : askE b (codesI b.n k 0 l) gs = 0 := by
  obtain ⟨h1, h2, h3⟩ := hr
  have hok := BookOK.of h1
  have hn := hok.n1
  have hall := List.all_eq_true.1 h3
  unfold askE
  rw [if_neg (by simpa using h1), if_neg (by rw [codesI_len]; have := hg.1; omega), if_neg]
  rintro (h | h)
  · have : (codesI b.n k 0 l).all (fun x => belowB x b.n) = true := List.all_eq_true.2 fun x hx => by
      have := codesI_in k (show 0 < b.n by omega) 0 l x hx
      rw [belowB_iff]
      omega
    rw [this] at h
    cases h
  · have : gs.all (guessB b (codesI b.n k 0 l)) = true := List.all_eq_true.2 fun g hg' => by
      obtain ⟨j, hj, e, hx⟩ := hg.2 g hg'
      have hp := hall g.p (List.mem_of_getElem? hx)
      simp only [guessB, Bool.and_eq_true, belowB_iff, codesI_len] at hp ⊢
      omega
    rw [this] at h
    cases h
/-- What Fits hands back: at least one key. -/
theorem known_fits (hr : readyB' b l) (hk : k ∈ b.ks) (hg : GoodGs l l.length gs) : fitsE b (codesI b.n k 0 l) gs = ((((keysI b (codesI b.n k 0 l) gs).length : Nat) : Int), 0) ∧ 0 < (keysI b (codesI b.n k 0 l) gs).length ∧ (keysI b (codesI b.n k 0 l) gs).length ≤ 100000 := by
  have hok := BookOK.of hr.1
  have hm := mem_keysI hok (hok.ks k hk) (true_agrees (b := b) (k := k) hg)
  have hp : 0 < (keysI b (codesI b.n k 0 l) gs).length := List.length_pos_of_mem hm
  have hn2 := hok.n2
  refine ⟨?_, hp, Nat.le_trans (agreeing_len _ _ _) (at3_small (by omega))⟩
  unfold fitsE
  rw [if_neg (by rw [true_asks hr hg]; simp), if_neg]
  · rfl
  · show ¬ (keysI b (codesI b.n k 0 l) gs).length = 0
    omega
/-- What Possible hands back at an index of the text. -/
theorem known_poss (hr : readyB' b l) (hk : k ∈ b.ks) (hg : GoodGs l l.length gs) {i : Nat} {x : Int} (hx : l[i]? = some x) : ∃ p, possE b (codesI b.n k 0 l) gs i = (p, 0) ∧ (p.any fun y => y == x) = true ∧ p.length ≤ 41 ∧
    ((keysI b (codesI b.n k 0 l) gs).length = 1 → p.length = 1) ∧ ∀ g ∈ gs, g.a = i → p = [x] := by
  have hok := BookOK.of hr.1
  have hn1 := hok.n1
  have hn2 := hok.n2
  have hil : i < l.length := (List.getElem?_eq_some_iff.1 hx).1
  have hx0 := belowB_iff.1 (List.all_eq_true.1 hr.2.2 x (List.mem_of_getElem? hx))
  have hkk := hok.ks k hk
  have hm := mem_keysI hok hkk (true_agrees (b := b) (k := k) hg)
  have hc : (codesI b.n k 0 l).getD i 0 = codeI b.n k x i := by rw [List.getD_eq_getElem?_getD, codes_at hx]; rfl
  have hpl : plainI b.n k (codeI b.n k x i) i = x := plain_code (undo_ok hok.pr hn1 hn2 hkk.1 hkk.2.1) hx0
  have hmem : x ∈ possI b (codesI b.n k 0 l) gs i := by
    unfold possI
    rw [hc]
    exact possL_mem.2 ⟨x.toNat, by omega, by omega, k, hm, hpl⟩
  refine ⟨possI b (codesI b.n k 0 l) gs i, ?_, List.any_eq_true.2 ⟨x, hmem, by simp⟩, Nat.le_trans (possL_len _ _ _ _ _) (by omega), fun h1 => ?_, fun g hg' hga => ?_⟩
  · unfold possE
    rw [if_neg (by rw [true_asks hr hg]; simp), if_neg, Int.toNat_natCast, if_neg (List.ne_nil_of_mem hmem)]
    rw [show belowB (i : Int) (codesI b.n k 0 l).length = true from belowB_iff.2 (by rw [codesI_len]; omega)]
    simp
  · obtain ⟨k0, h0⟩ := List.length_eq_one_iff.1 h1
    have e : k = k0 := by rw [h0] at hm; exact List.mem_singleton.1 hm
    unfold possI
    rw [hc, h0, ← e, poss_all (k := k) (x := x) (by simp) (by simp [hpl]) hx0.1, if_pos (by omega)]
    rfl
  · unfold possI
    rw [hc, poss_all (x := x) hm (fun q hq => ?_) hx0.1, if_pos (by omega)]
    obtain ⟨hq1, hq2⟩ := keysI_mem hok hq
    obtain ⟨j, _, hj, hx2⟩ := hg.2 g hg'
    have hji : j = i := by omega
    subst hji
    have hgp : g.p = x := Option.some.inj (hx2.symm.trans hx)
    have := List.all_eq_true.1 hq2 g hg'
    rw [beq_iff_eq, hj, Int.toNat_natCast, hc, hgp] at this
    rw [← this]
    exact plain_code (undo_ok hok.pr hn1 hn2 hq1.1 hq1.2) hx0
end
end Go.Proofs.Ytkhfkmfofhnmdaa

namespace Go.Proofs.Ytkhfkmfofhnmdaa
open Go.RowKit Go.Shelf

section
variable {b : Bk} {codes : List Int} {gs : List Gs} {g : Gs}
theorem ask_iff (hok : bookE b = 0) : askE b codes gs = 0 ↔ codes.length ≤ 10 ∧ gs.length ≤ 6 ∧ codes.all (fun x => belowB x b.n) = true ∧ gs.all (guessB b codes) = true := by
  unfold askE
  rw [if_neg (by simpa using hok)]
  by_cases h1 : 10 < codes.length ∨ 6 < gs.length
  · rw [if_pos h1]
    constructor
    · intro h; cases h
    · rintro ⟨h2, h3, _⟩; omega
  · rw [if_neg h1]
    cases h2 : codes.all (fun x => belowB x b.n) <;> cases h3 : gs.all (guessB b codes) <;> simp <;> omega
theorem ask_less (hok : bookE b = 0) (h : askE b codes (gs ++ [g]) = 0) : askE b codes gs = 0 ∧ askE b codes [] = 0 := by
  obtain ⟨h1, h2, h3, h4⟩ := (ask_iff hok).1 h
  rw [List.all_append, Bool.and_eq_true] at h4
  rw [List.length_append] at h2
  exact ⟨(ask_iff hok).2 ⟨h1, by omega, h3, h4.1⟩, (ask_iff hok).2 ⟨h1, by simp, h3, rfl⟩⟩
theorem keys_more : keysI b codes (gs ++ [g]) = (keysI b codes gs).filter fun k => agreeB b.n codes [g] k := by
  unfold keysI agreeing
  rw [List.filter_filter]
  congr 1
  funext k
  unfold agreeB
  rw [List.all_append, Bool.and_comm]
theorem keys_all : (keysI b codes []).length = at3 b.n.toNat (b.n.toNat - 1) 0 0 := by
  unfold keysI agreeing
  rw [show ∀ l : List Ky, l.filter (agreeB b.n codes []) = l from fun l => List.filter_eq_self.2 fun k _ => rfl]
  simp
theorem keys_le_all : (keysI b codes gs).length ≤ (keysI b codes []).length := by
  rw [keys_all]
  exact agreeing_len _ _ _
theorem keys_more_le : (keysI b codes (gs ++ [g])).length ≤ (keysI b codes gs).length := by rw [keys_more]; exact List.length_filter_le _ _
theorem poss_nil (hok : BookOK b) {i : Nat} : possI b codes gs i = [] ↔ (keysI b codes gs).length = 0 := by
  have hn := hok.n1
  constructor
  · intro h
    rcases hk : keysI b codes gs with _ | ⟨k, r⟩
    · rfl
    · exfalso
      have hp := plainI_in (n := b.n) (k := k) (p := codes.getD i 0) (i := i) (by omega)
      have : plainI b.n k (codes.getD i 0) i ∈ possI b codes gs i := by
        unfold possI
        exact possL_mem.2 ⟨(plainI b.n k (codes.getD i 0) i).toNat, by omega, by omega, k, by rw [hk]; simp, rfl⟩
      rw [h] at this
      cases this
  · intro h
    rw [List.eq_nil_iff_forall_not_mem]
    intro x hx
    unfold possI at hx
    obtain ⟨_, _, _, k, hk, _⟩ := possL_mem.1 hx
    rw [List.length_eq_zero_iff.1 h] at hk
    cases hk
theorem poss_more {i : Nat} {x : Int} (h : x ∈ possI b codes (gs ++ [g]) i) : x ∈ possI b codes gs i := by
  unfold possI at h ⊢
  obtain ⟨j, hj, e, k, hk, hp⟩ := possL_mem.1 h
  rw [keys_more] at hk
  exact possL_mem.2 ⟨j, hj, e, k, (List.mem_filter.1 hk).1, hp⟩
theorem poss_every (hok : BookOK b) {i : Nat} : (possI b codes [] i).length = b.n.toNat := by
  have hn1 := hok.n1
  have hn2 := hok.n2
  have hu : undoI 1 b.n = 1 := by
    have h1 := undo_ok (m := 1) hok.pr hn1 hn2 (by omega) (by omega)
    have h2 := powI_in (m := 1) (n := b.n) (by omega) (by omega) (b.n - 2).toNat
    unfold undoI at h1 ⊢
    rw [Int.mul_one, Int.emod_eq_of_lt h2.1 h2.2] at h1
    exact h1
  unfold possI possL
  rw [List.length_map, List.filter_eq_self.2]
  · simp
  intro j hj
  have hj2 := List.mem_range.1 hj
  unfold possB
  generalize codes.getD i 0 = c
  have ha0 := Int.emod_nonneg (c - j) (show b.n ≠ 0 by omega)
  have ha1 := Int.emod_lt_of_pos (c - j) (show 0 < b.n by omega)
  refine List.any_eq_true.2 ⟨⟨1, (c - j) % b.n, 0⟩, mem_keysI hok (by simp only; omega) rfl, ?_⟩
  rw [beq_iff_eq]
  unfold plainI
  simp only [hu, Int.mul_one, Int.mul_zero, Int.sub_zero]
  rw [Int.sub_emod, Int.emod_emod_of_dvd _ (Int.dvd_refl b.n), ← Int.sub_emod, show c - (c - j) = (j : Int) by omega]
  exact Int.emod_eq_of_lt (by omega) (by omega)
theorem fitsE_of (h : askE b codes gs = 0) : fitsE b codes gs = if (keysI b codes gs).length = 0 then (0, 11) else ((((keysI b codes gs).length : Nat) : Int), 0) := by
  unfold fitsE
  rw [if_neg (by rw [h]; simp)]
  rfl
theorem possE_of {i : Nat} (hok : BookOK b) (h : askE b codes gs = 0) (hi : i < codes.length) : possE b codes gs i = if (keysI b codes gs).length = 0 then ([], 11) else (possI b codes gs i, 0) := by
  unfold possE
  rw [if_neg (by rw [h]; simp), show belowB (i : Int) codes.length = true from belowB_iff.2 (by omega), if_neg (by simp), Int.toNat_natCast]
  by_cases h0 : (keysI b codes gs).length = 0
  · rw [if_pos h0, if_pos ((poss_nil hok).2 h0)]
  · rw [if_neg h0, if_neg (fun e => h0 ((poss_nil hok).1 e))]
end
end Go.Proofs.Ytkhfkmfofhnmdaa

namespace Go.Proofs.Ytkhfkmfofhnmdaa
open Go.RowKit Go.Shelf
attribute [local go_sem] Oper.semAt_some

theorem und63 : Try.prog.underlying 63 = some (.slice 87) := by kernel_rfl
/-- What the six calls hand back. -/
theorem more_facts {b : Bk} {codes : List Int} {gs : List Gs} {g : Gs} {i : Nat} (h0 : bookE b = 0) (h : askE b codes (gs ++ [g]) = 0) (hi : i < codes.length) : ∃ E1 F1 P1 E2 F2 P2 R, fitsE b codes gs = (F1, E1) ∧ possE b codes gs i = (P1, E1) ∧ fitsE b codes (gs ++ [g]) = (F2, E2) ∧ possE b codes (gs ++ [g]) i = (P2, E2) ∧
    fitsE b codes [] = (b.n * b.n * (b.n - 1), 0) ∧ possE b codes [] i = (R, 0) ∧ (R.length : Int) = b.n ∧ P1.length ≤ 41 ∧ P2.length ≤ 41 ∧ ((E2 = 11 ∧ F2 = 0 ∧ P2 = []) ∨ (E2 = 0 ∧ E1 = 0 ∧ F2 ≤ F1 ∧ F1 ≤ b.n * b.n * (b.n - 1) ∧ ∀ x ∈ P2, (P1.any fun y => y == x) = true)) := by
  have hok := BookOK.of h0
  have hn1 := hok.n1
  have hn2 := hok.n2
  obtain ⟨h1, h2⟩ := ask_less h0 h
  have hT : ((at3 b.n.toNat (b.n.toNat - 1) 0 0 : Nat) : Int) = b.n * b.n * (b.n - 1) := by
    unfold at3
    obtain ⟨n, hn⟩ : ∃ n : Nat, b.n = n := ⟨b.n.toNat, by omega⟩
    rw [hn, Int.toNat_natCast]
    have e : ((n - 1 : Nat) : Int) = (n : Int) - 1 := by omega
    rw [Nat.zero_mul, Nat.add_zero, Int.natCast_mul, Int.natCast_mul, e, Int.mul_comm]
  have hA : (keysI b codes []).length = at3 b.n.toNat (b.n.toNat - 1) 0 0 := keys_all
  have hA0 : ¬ (keysI b codes []).length = 0 := fun e => by
    have := (poss_nil hok (i := i)).2 e
    have h3 := poss_every (codes := codes) hok (i := i)
    rw [this] at h3
    simp at h3
    omega
  have k1 : (keysI b codes gs).length ≤ (keysI b codes []).length := keys_le_all
  have k2 := keys_more_le (b := b) (codes := codes) (gs := gs) (g := g)
  have l1 : (possI b codes gs i).length ≤ 41 := Nat.le_trans (possL_len _ _ _ _ _) (by omega)
  have l2 : (possI b codes (gs ++ [g]) i).length ≤ 41 := Nat.le_trans (possL_len _ _ _ _ _) (by omega)
  rw [fitsE_of h, possE_of hok h hi, fitsE_of h1, possE_of hok h1 hi, fitsE_of h2, possE_of hok h2 hi, if_neg hA0, if_neg hA0, hA, hT]
  have hR := poss_every (codes := codes) hok (i := i)
  have hR2 : ((possI b codes [] i).length : Int) = b.n := by omega
  by_cases c2 : (keysI b codes (gs ++ [g])).length = 0
  · rw [if_pos c2, if_pos c2]
    by_cases c1 : (keysI b codes gs).length = 0
    · rw [if_pos c1, if_pos c1]
      exact ⟨_, _, _, _, _, _, _, rfl, rfl, rfl, rfl, rfl, rfl, hR2, by simp, by simp, .inl ⟨rfl, rfl, rfl⟩⟩
    · rw [if_neg c1, if_neg c1]
      exact ⟨_, _, _, _, _, _, _, rfl, rfl, rfl, rfl, rfl, rfl, hR2, l1, by simp, .inl ⟨rfl, rfl, rfl⟩⟩
  · rw [if_neg c2, if_neg c2, if_neg (show ¬ (keysI b codes gs).length = 0 by omega), if_neg (show ¬ (keysI b codes gs).length = 0 by omega)]
    refine ⟨_, _, _, _, _, _, _, rfl, rfl, rfl, rfl, rfl, rfl, hR2, l1, l2, .inr ⟨rfl, rfl, by omega, by omega, fun x hx => List.any_eq_true.2 ⟨x, poss_more hx, by simp⟩⟩⟩
end Go.Proofs.Ytkhfkmfofhnmdaa

namespace Go.Proofs.Ytkhfkmfofhnmdaa
open Go.RowKit Go.Shelf
attribute [local go_sem] Oper.semAt_some

set_option maxRecDepth 100000 in
set_option maxHeartbeats 1200000 in
theorem more_law (v1 v2 : Value) (b : Bk) (v : Value) (codes : List Int) (u : Value) (gs : List Gs) (mr : Gs) (x : Int) (w0 : World) (hL : BookAny w0 v1 v2 b) (hc : RowsAny w0 v 1 ic codes) (hg : RowsAny w0 u 2 Gs.cells gs) (hx : 0 ≤ x ∧ x ≤ 255) :
    Calls Try.prog 13 #[.agg #[iv b.n, iv b.w, v1, v2], v, u, .agg #[iv mr.a, iv mr.p], .int .u8 x] w0 fun e w' => e = .returned (.bool true) ∧ Below w0.heap.size w0 w' := by
  obtain ⟨i1, hi1, hz10, hz11, hz12⟩ := info_parts rguess_info
  obtain ⟨A1, cap1, rfl, g1, g2⟩ := hL.ks.form
  obtain ⟨A2, cap2, rfl, g3, g4⟩ := hL.ds.form
  obtain ⟨A3, cap3, rfl, g5, g6⟩ := hc.form
  obtain ⟨A4, cap4, rfl, g7, g8⟩ := hg.form
  obtain ⟨hx0, hx1⟩ := hx
  have HA := Lib.hid hL
  have HCA := Lib.hid hc
  have HGA := Lib.hid hg
  clear hL hc hg
  cases hr : readyT b codes with
  | false =>
    have Hr := Lib.hid hr
    clear hr
    go_enter Try.func13, Try.ntmps13
    go_wp2_with fail
    have HB := Lib.hid (up_alloc (up_alloc (up0 (w := w0)) (.cells #[iv b.n, iv b.w, .slice A1 b.ks.length cap1, .slice A2 b.ds.length cap2] 25)) (.cells #[iv mr.a, iv mr.p] 87))
    have B1 := Lib.hid ((Box.new (w := w0) (t := 25) (cs := #[iv b.n, iv b.w, .slice A1 b.ks.length cap1, .slice A2 b.ds.length cap2]) rfl).alloc (.cells #[iv mr.a, iv mr.p] 87))
    have BM := Lib.hid (Box.new (w := w0.alloc (.cells #[iv b.n, iv b.w, .slice A1 b.ks.length cap1, .slice A2 b.ds.length cap2] 25)) (g := w0.heap.size + 1) (t := 87) (cs := #[iv mr.a, iv mr.p]) (by simp))
    refine (ready_law _ _ b _ codes _ (HA.out.kept HB.out) (HCA.out.kept HB.out)).mono ?_
    rintro e w1 ⟨rfl, hb⟩
    rw [Hr.out]
    have HB := Lib.hid (up_later HB.out hb)
    have B1 := Lib.hid (B1.out.kept hb)
    have BM := Lib.hid (BM.out.kept hb)
    clear hb
    have BB := B1.out
    have cB := fun i => BB.cell i
    have fB := fun i => BB.free i
    have lB := BB.lt
    have mB := Nat.lt_succ_of_lt lB
    go_wp2_with fail
    clear cB fB lB mB BB
    refine (awake_any _).mono ?_
    rintro e w9 ⟨rfl, hb⟩
    go_wp2_with fail
    go_ret
    exact ⟨rfl, up_later HB.out hb⟩
  | true =>
  have Hr := Lib.hid hr
  obtain ⟨h8, hr'⟩ := readyT_iff.1 hr
  have hcl := hr'.2.1
  have Hbk := Lib.hid hr'.1
  have HL := Lib.hid (HA.out.at h8.1 h8.2)
  have HC := Lib.hid (HCA.out.rows (by omega))
  clear hr hr' h8
  by_cases c0 : codes = []
  · have z0 : ((codes.length : Int) == 0) = true := by subst c0; rfl
    clear c0
    go_enter Try.func13, Try.ntmps13
    go_wp2_with fail
    have HB := Lib.hid (up_alloc (up_alloc (up0 (w := w0)) (.cells #[iv b.n, iv b.w, .slice A1 b.ks.length cap1, .slice A2 b.ds.length cap2] 25)) (.cells #[iv mr.a, iv mr.p] 87))
    have B1 := Lib.hid ((Box.new (w := w0) (t := 25) (cs := #[iv b.n, iv b.w, .slice A1 b.ks.length cap1, .slice A2 b.ds.length cap2]) rfl).alloc (.cells #[iv mr.a, iv mr.p] 87))
    have BM := Lib.hid (Box.new (w := w0.alloc (.cells #[iv b.n, iv b.w, .slice A1 b.ks.length cap1, .slice A2 b.ds.length cap2] 25)) (g := w0.heap.size + 1) (t := 87) (cs := #[iv mr.a, iv mr.p]) (by simp))
    refine (ready_law _ _ b _ codes _ (HA.out.kept HB.out) (HCA.out.kept HB.out)).mono ?_
    rintro e w1 ⟨rfl, hb⟩
    rw [Hr.out]
    have HB := Lib.hid (up_later HB.out hb)
    have B1 := Lib.hid (B1.out.kept hb)
    have BM := Lib.hid (BM.out.kept hb)
    clear hb
    have BB := B1.out
    have cB := fun i => BB.cell i
    have fB := fun i => BB.free i
    have lB := BB.lt
    have mB := Nat.lt_succ_of_lt lB
    go_wp2_with fail
    clear cB fB lB mB BB
    refine (awake_any _).mono ?_
    rintro e w9 ⟨rfl, hb⟩
    go_wp2_with fail
    go_ret
    exact ⟨rfl, up_later HB.out hb⟩
  have hcp := List.length_pos_iff.2 c0
  have z0 : ((codes.length : Int) == 0) = false := by rw [beq_eq_false_iff_ne]; omega
  have z1 : ¬ (codes.length : Int) = 0 := by omega
  have HC0 := Lib.hid c0
  clear c0
  by_cases c5 : 5 < gs.length
  · have n5 : (5 : Int) < (gs.length : Int) := by omega
    have n6 : decide ((5 : Int) < (gs.length : Int)) = true := decide_eq_true n5
    clear c5
    go_enter Try.func13, Try.ntmps13
    go_wp2_with fail
    have HB := Lib.hid (up_alloc (up_alloc (up0 (w := w0)) (.cells #[iv b.n, iv b.w, .slice A1 b.ks.length cap1, .slice A2 b.ds.length cap2] 25)) (.cells #[iv mr.a, iv mr.p] 87))
    have B1 := Lib.hid ((Box.new (w := w0) (t := 25) (cs := #[iv b.n, iv b.w, .slice A1 b.ks.length cap1, .slice A2 b.ds.length cap2]) rfl).alloc (.cells #[iv mr.a, iv mr.p] 87))
    have BM := Lib.hid (Box.new (w := w0.alloc (.cells #[iv b.n, iv b.w, .slice A1 b.ks.length cap1, .slice A2 b.ds.length cap2] 25)) (g := w0.heap.size + 1) (t := 87) (cs := #[iv mr.a, iv mr.p]) (by simp))
    refine (ready_law _ _ b _ codes _ (HA.out.kept HB.out) (HCA.out.kept HB.out)).mono ?_
    rintro e w1 ⟨rfl, hb⟩
    rw [Hr.out]
    have HB := Lib.hid (up_later HB.out hb)
    have B1 := Lib.hid (B1.out.kept hb)
    have BM := Lib.hid (BM.out.kept hb)
    clear hb
    have BB := B1.out
    have cB := fun i => BB.cell i
    have fB := fun i => BB.free i
    have lB := BB.lt
    have mB := Nat.lt_succ_of_lt lB
    go_wp2_with fail
    clear cB fB lB mB BB
    refine (awake_any _).mono ?_
    rintro e w9 ⟨rfl, hb⟩
    go_wp2_with fail
    go_ret
    exact ⟨rfl, up_later HB.out hb⟩
  have n5 : ¬ (5 : Int) < (gs.length : Int) := by omega
  have n6 : decide ((5 : Int) < (gs.length : Int)) = false := decide_eq_false n5
  have HGr := Lib.hid (HGA.out.rows (by omega))
  obtain ⟨X, hX⟩ : ∃ X, gs ++ [mr] = X := ⟨_, rfl⟩
  have HX := Lib.hid hX
  have HXl := Lib.hid (show X.length = gs.length + 1 by rw [← hX]; simp)
  have HXf := Lib.hid (show X.flatMap Gs.cells = gs.flatMap Gs.cells ++ [iv mr.a, iv mr.p] by rw [← hX, List.flatMap_append]; simp [Gs.cells])
  clear hX
  go_enter Try.func13, Try.ntmps13
  go_wp2_with fail
  have HB := Lib.hid (up_alloc (up_alloc (up0 (w := w0)) (.cells #[iv b.n, iv b.w, .slice A1 b.ks.length cap1, .slice A2 b.ds.length cap2] 25)) (.cells #[iv mr.a, iv mr.p] 87))
  have B1 := Lib.hid ((Box.new (w := w0) (t := 25) (cs := #[iv b.n, iv b.w, .slice A1 b.ks.length cap1, .slice A2 b.ds.length cap2]) rfl).alloc (.cells #[iv mr.a, iv mr.p] 87))
  have BM := Lib.hid (Box.new (w := w0.alloc (.cells #[iv b.n, iv b.w, .slice A1 b.ks.length cap1, .slice A2 b.ds.length cap2] 25)) (g := w0.heap.size + 1) (t := 87) (cs := #[iv mr.a, iv mr.p]) (by simp))
  refine (ready_law _ _ b _ codes _ (HA.out.kept HB.out) (HCA.out.kept HB.out)).mono ?_
  rintro e w1 ⟨rfl, hb⟩
  rw [Hr.out]
  have HB := Lib.hid (up_later HB.out hb)
  have B1 := Lib.hid (B1.out.kept hb)
  have BM := Lib.hid (BM.out.kept hb)
  clear hb
  have BB := B1.out
  have cB := fun i => BB.cell i
  have fB := fun i => BB.free i
  have lB := BB.lt
  have mB := Nat.lt_succ_of_lt lB
  go_wp2_with fail
  clear cB fB lB mB BB
  have M := BM.out
  apply wp_region_by 5 [(Fact.slF w0.heap.size 0 87 #[]), (Fact.eq _), (Fact.own w0.heap.size 87 2 gs.length (gs.flatMap Gs.cells)), (Fact.eq _), (Fact.sl 1 87 #[iv mr.a, iv mr.p])]
  case hm => kernel_rfl
  case hB => kernel_rfl
  case hA => (intro vs; simp only [List.take_succ_cons, List.take_zero, putAll, if_true, Act.put, List.setIfInBounds_toArray, List.set_cons_zero, List.set_cons_succ]; exact rfl)
  case hstep =>
    intro vs
    refine And.intro (fun w hw hd => ?_) ?_
    · refine ite_yes rfl ?_
      simp only [Gives]
      have hz8 := hw.size
      have hz9 := HB.out.size
      go_simp
      exact ⟨(Below.refl _ _).alloc (Nat.le_refl _) _, ⟨_, rfl, Box.new rfl, by omega⟩, fun h => by cases h⟩
    refine And.intro (fun w hw hd => ?_) ?_
    · refine ite_yes rfl ?_
      simp only [Gives]
      go_simp
      exact ⟨Below.refl _ _, rfl, fun h => by cases h⟩
    refine And.intro (fun w hw hd => ?_) ?_
    · have d0 := hd 0 (by decide) rfl
      obtain ⟨m0, d0, M0, L0⟩ := d0
      have d1 := hd 1 (by decide) rfl
      change vs 1 = _ at d1
      refine ite_yes rfl ?_
      simp only [Gives]
      obtain ⟨A9, m9, p9, w9, hr9, ho9, hb9⟩ := run_append_any (P := Try.prog) w w0.heap.size 63 63 87 i1 (.agg #[iv 0, iv 0]) 2 16 und63 hi1 hz10 hz11 hz12 rfl (by decide) m0 M0 L0 Gs.cells gs _ (HGA.out.kept (up_later HB.out hw)) (by omega) (fun _ => rfl) (by omega)
      refine gives_append (.tmp 41) (.tmp 42) 63 rfl _ _ _ ?_ ?_ hr9 ⟨hb9, ⟨_, _, _, rfl, ho9⟩, fun h => by cases h⟩
      all_goals (go_simp)
    refine And.intro (fun w hw hd => ?_) ?_
    · refine ite_yes rfl ?_
      have c_M := fun i => (M.kept hw).cell i
      simp only [Gives]
      go_simp
      exact ⟨Below.refl _ _, rfl, fun h => by cases h⟩
    refine And.intro (fun w hw hd => ?_) ?_
    · have d3 := hd 3 (by decide) rfl
      change vs 3 = _ at d3
      refine ite_yes rfl ?_
      simp only [Gives]
      go_simp
      exact ⟨(Below.refl _ _).alloc (Nat.le_refl _) _, ⟨_, rfl, Box.new rfl⟩, fun h => by cases h⟩
    exact trivial
  intro vs wt hw hd hne hlo
  have d0 := hd 0 (by decide)
  obtain ⟨m0, d0, M0, L0⟩ := d0
  have d1 := hd 1 (by decide)
  change vs 1 = _ at d1
  have d2 := hd 2 (by decide)
  obtain ⟨A2', m2, p2, d2, O2⟩ := d2
  have d3 := hd 3 (by decide)
  change vs 3 = _ at d3
  have d4 := hd 4 (by decide)
  obtain ⟨m4, d4, M4⟩ := d4
  simp only [d1, d3, List.drop_succ_cons, List.drop_zero]
  have M := M.kept hw
  have c_M := fun i => M.cell i
  have f_M := fun i => M.free i
  clear hd hne hlo d1 d3
  simp only [Nat.zero_add, Nat.reduceAdd, d2, d4]
  have hszw := hw.size
  have hsz0 := HB.out.size
  rw [d2] at O2
  obtain ⟨A5, p5, e5⟩ := own_form' O2
  injection e5 with _ e5m _
  subst e5m
  have HO := Lib.hid O2
  have HB := Lib.hid (up_later HB.out hw)
  have B1 := Lib.hid (B1.out.kept hw)
  clear d0 d2 d4 O2 M0 L0 c_M f_M M hw BM
  go_upto_region 4 with (at_builtin; refine wpList_append_own_at _ rfl (.tmp 43) (.tmp 45) 63 rfl w0.heap.size 87 i1 (.agg #[iv 0, iv 0]) 2 16 und63 hi1 hz10 hz11 hz12 rfl (by decide) _ _ _ rfl HO.out ⟨m4, 0, none⟩ 1 1 [iv mr.a, iv mr.p] rfl rfl (box_newsM M4) (by simp [Value.oneCell']) (by unfold maxLen; omega) (by omega) (by omega) ?_; intro v' w2 hown' hgrow hnil _)
  clear hnil
  have B1 := Lib.hid (B1.out.grown hgrow (box_not_own B1.out (by decide) HO.out))
  have HB := Lib.hid (Below.grown HB.out hgrow HB.out.size fun g e => (HO.out.lt g e).1)
  obtain ⟨A6, p6, rfl⟩ := own_form' hown'
  have HXV := Lib.hid (show RowsAt w2 (.slice A6 (gs.length + 1) p6) 2 Gs.cells X from RowsAt.of_ownM (fun _ => rfl) (by rw [HXf.out]; exact hown') HXl.out.symm (by rw [HXl.out]; omega))
  clear hown' hgrow HO M4
  have BB := B1.out
  have cB := fun i => BB.cell i
  have fB := fun i => BB.free i
  have lB := BB.lt
  have mB := Nat.lt_succ_of_lt lB
  go_wp2_with fail
  clear cB fB lB mB BB
  refine (asked_any _ _ _ _ b codes X _ (HL.out.kept HB.out) (HC.out.kept HB.out) HXV.out).mono ?_
  rintro e w3 ⟨rfl, hb⟩
  have HB := Lib.hid (up_later HB.out hb)
  have B1 := Lib.hid (B1.out.kept hb)
  have HXV := Lib.hid (HXV.out.kept hb)
  clear hb
  by_cases cA : askE b codes X = 0
  case neg =>
    have hA0 : (askE b codes X == 0) = false := by rw [beq_eq_false_iff_ne]; exact cA
    clear cA
    have BB := B1.out
    have cB := fun i => BB.cell i
    have fB := fun i => BB.free i
    have lB := BB.lt
    have mB := Nat.lt_succ_of_lt lB
    go_wp2_with fail
    clear cB fB lB mB BB
    refine (awake_any _).mono ?_
    rintro e w9 ⟨rfl, hb⟩
    go_wp2_with fail
    go_ret
    exact ⟨rfl, up_later HB.out hb⟩
  rw [cA]
  have m0 : 0 ≤ x % (codes.length : Int) := Int.emod_nonneg _ (by omega)
  have m1 : x % (codes.length : Int) < codes.length := Int.emod_lt_of_pos _ (by omega)
  obtain ⟨i, hi⟩ : ∃ i : Nat, x % (codes.length : Int) = i := ⟨(x % (codes.length : Int)).toNat, by omega⟩
  obtain ⟨E1, F1, P1, E2, F2, P2, R, f1, f2, f3, f4, f5, f6, hR, hp1, hp2, hcase⟩ := more_facts (i := i) Hbk.out (by rw [HX.out]; exact cA) (by omega)
  rw [HX.out] at f3 f4
  obtain ⟨T, hT⟩ : ∃ T, b.n * b.n * (b.n - 1) = T := ⟨_, rfl⟩
  rw [hT] at f5 hcase
  have HT := Lib.hid hT
  clear hT
  have HF1 := Lib.hid f1
  have HF2 := Lib.hid f2
  have HF3 := Lib.hid f3
  have HF4 := Lib.hid f4
  have HF5 := Lib.hid f5
  have HF6 := Lib.hid f6
  have Hcase := Lib.hid hcase
  have Hi := Lib.hid hi
  have hok := BookOK.of Hbk.out
  have hn1 := hok.n1
  have hn2 := hok.n2
  clear cA m0 m1 hi f1 f2 f3 f4 f5 f6 hcase hok
  have BB := B1.out
  have cB := fun i => BB.cell i
  have fB := fun i => BB.free i
  have lB := BB.lt
  have mB := Nat.lt_succ_of_lt lB
  go_wp2_with fail
  clear cB fB lB mB BB
  simp only [Hi.out]
  have HRl := Lib.hid hR
  have hnil : Hid (∀ w, RowsAt w (.slice none 0 0) 2 Gs.cells ([] : List Gs)) := Lib.hid fun w => ⟨by simp, none, 0, rfl, by simp, by omega, fun h => absurd rfl h⟩
  clear hR
  refine (Book_any _ _ b _ (HL.out.kept HB.out)).mono ?_
  rintro e w2 ⟨a1, a2, rfl, hq, hb⟩
  have HQ := Lib.hid hq
  clear hq
  have HB := Lib.hid (up_later HB.out hb)
  have B1 := Lib.hid (B1.out.kept hb)
  have HXV := Lib.hid (HXV.out.kept hb)
  clear hb
  unfold bookV
  have BB := B1.out
  have cB := fun i => BB.cell i
  have fB := fun i => BB.free i
  have lB := BB.lt
  have mB := Nat.lt_succ_of_lt lB
  go_wp2_with fail
  clear cB fB lB mB BB
  refine (list_any _ codes _ (HC.out.kept HB.out)).mono ?_
  rintro e w3 ⟨lv, rfl, hq, hb⟩
  have HP := Lib.hid hq
  clear hq
  have HB := Lib.hid (up_later HB.out hb)
  have B1 := Lib.hid (B1.out.kept hb)
  have HXV := Lib.hid (HXV.out.kept hb)
  have HQ := Lib.hid (HQ.out.kept hb)
  clear hb
  have BB := B1.out
  have cB := fun i => BB.cell i
  have fB := fun i => BB.free i
  have lB := BB.lt
  have mB := Nat.lt_succ_of_lt lB
  go_wp2_with fail
  clear cB fB lB mB BB
  refine (Guesses_any _ gs _ (HGr.out.kept HB.out)).mono ?_
  rintro e w4 ⟨gv, rfl, hq, hb⟩
  have HG := Lib.hid hq
  clear hq
  have HB := Lib.hid (up_later HB.out hb)
  have B1 := Lib.hid (B1.out.kept hb)
  have HXV := Lib.hid (HXV.out.kept hb)
  have HQ := Lib.hid (HQ.out.kept hb)
  have HP := Lib.hid (HP.out.kept hb)
  clear hb
  have BB := B1.out
  have cB := fun i => BB.cell i
  have fB := fun i => BB.free i
  have lB := BB.lt
  have mB := Nat.lt_succ_of_lt lB
  go_wp2_with fail
  clear cB fB lB mB BB
  refine (Fits_any _ _ _ _ b codes gs _ HQ.out HP.out (HG.out)).mono ?_
  rintro e w5 ⟨rfl, hb⟩
  rw [HF1.out]
  clear HQ HP
  have HB := Lib.hid (up_later HB.out hb)
  have B1 := Lib.hid (B1.out.kept hb)
  have HXV := Lib.hid (HXV.out.kept hb)
  clear hb
  have BB := B1.out
  have cB := fun i => BB.cell i
  have fB := fun i => BB.free i
  have lB := BB.lt
  have mB := Nat.lt_succ_of_lt lB
  go_wp2_with fail
  clear cB fB lB mB BB
  refine (Book_any _ _ b _ (HL.out.kept HB.out)).mono ?_
  rintro e w2 ⟨a1, a2, rfl, hq, hb⟩
  have HQ := Lib.hid hq
  clear hq
  have HB := Lib.hid (up_later HB.out hb)
  have B1 := Lib.hid (B1.out.kept hb)
  have HXV := Lib.hid (HXV.out.kept hb)
  clear hb
  unfold bookV
  have BB := B1.out
  have cB := fun i => BB.cell i
  have fB := fun i => BB.free i
  have lB := BB.lt
  have mB := Nat.lt_succ_of_lt lB
  go_wp2_with fail
  clear cB fB lB mB BB
  refine (list_any _ codes _ (HC.out.kept HB.out)).mono ?_
  rintro e w3 ⟨lv, rfl, hq, hb⟩
  have HP := Lib.hid hq
  clear hq
  have HB := Lib.hid (up_later HB.out hb)
  have B1 := Lib.hid (B1.out.kept hb)
  have HXV := Lib.hid (HXV.out.kept hb)
  have HQ := Lib.hid (HQ.out.kept hb)
  clear hb
  have BB := B1.out
  have cB := fun i => BB.cell i
  have fB := fun i => BB.free i
  have lB := BB.lt
  have mB := Nat.lt_succ_of_lt lB
  go_wp2_with fail
  clear cB fB lB mB BB
  refine (Guesses_any _ X _ (HXV.out)).mono ?_
  rintro e w4 ⟨gv, rfl, hq, hb⟩
  have HG := Lib.hid hq
  clear hq
  have HB := Lib.hid (up_later HB.out hb)
  have B1 := Lib.hid (B1.out.kept hb)
  have HXV := Lib.hid (HXV.out.kept hb)
  have HQ := Lib.hid (HQ.out.kept hb)
  have HP := Lib.hid (HP.out.kept hb)
  clear hb
  have BB := B1.out
  have cB := fun i => BB.cell i
  have fB := fun i => BB.free i
  have lB := BB.lt
  have mB := Nat.lt_succ_of_lt lB
  go_wp2_with fail
  clear cB fB lB mB BB
  refine (Fits_any _ _ _ _ b codes X _ HQ.out HP.out (HG.out)).mono ?_
  rintro e w5 ⟨rfl, hb⟩
  rw [HF3.out]
  clear HQ HP
  have HB := Lib.hid (up_later HB.out hb)
  have B1 := Lib.hid (B1.out.kept hb)
  have HXV := Lib.hid (HXV.out.kept hb)
  clear hb
  have BB := B1.out
  have cB := fun i => BB.cell i
  have fB := fun i => BB.free i
  have lB := BB.lt
  have mB := Nat.lt_succ_of_lt lB
  go_wp2_with fail
  clear cB fB lB mB BB
  refine (Book_any _ _ b _ (HL.out.kept HB.out)).mono ?_
  rintro e w2 ⟨a1, a2, rfl, hq, hb⟩
  have HQ := Lib.hid hq
  clear hq
  have HB := Lib.hid (up_later HB.out hb)
  have B1 := Lib.hid (B1.out.kept hb)
  have HXV := Lib.hid (HXV.out.kept hb)
  clear hb
  unfold bookV
  have BB := B1.out
  have cB := fun i => BB.cell i
  have fB := fun i => BB.free i
  have lB := BB.lt
  have mB := Nat.lt_succ_of_lt lB
  go_wp2_with fail
  clear cB fB lB mB BB
  refine (list_any _ codes _ (HC.out.kept HB.out)).mono ?_
  rintro e w3 ⟨lv, rfl, hq, hb⟩
  have HP := Lib.hid hq
  clear hq
  have HB := Lib.hid (up_later HB.out hb)
  have B1 := Lib.hid (B1.out.kept hb)
  have HXV := Lib.hid (HXV.out.kept hb)
  have HQ := Lib.hid (HQ.out.kept hb)
  clear hb
  have BB := B1.out
  have cB := fun i => BB.cell i
  have fB := fun i => BB.free i
  have lB := BB.lt
  have mB := Nat.lt_succ_of_lt lB
  go_wp2_with fail
  clear cB fB lB mB BB
  refine (Guesses_any _ gs _ (HGr.out.kept HB.out)).mono ?_
  rintro e w4 ⟨gv, rfl, hq, hb⟩
  have HG := Lib.hid hq
  clear hq
  have HB := Lib.hid (up_later HB.out hb)
  have B1 := Lib.hid (B1.out.kept hb)
  have HXV := Lib.hid (HXV.out.kept hb)
  have HQ := Lib.hid (HQ.out.kept hb)
  have HP := Lib.hid (HP.out.kept hb)
  clear hb
  have BB := B1.out
  have cB := fun i => BB.cell i
  have fB := fun i => BB.free i
  have lB := BB.lt
  have mB := Nat.lt_succ_of_lt lB
  go_wp2_with fail
  clear cB fB lB mB BB
  refine (Possible_any _ _ _ _ b codes gs i _ HQ.out HP.out (HG.out)).mono ?_
  rintro e w5 ⟨pv, rfl, ho, hb⟩
  rw [HF2.out] at ho ⊢
  clear HQ HP
  obtain ⟨As, ps, rfl⟩ := own_form' ho
  have HIs := Lib.hid (show IntsAt w5 (.slice As (P1).length ps) P1 from ints_of_own ho rfl (by show (P1).length ≤ 1000; have := HRl.out; omega))
  clear ho
  have HB := Lib.hid (up_later HB.out hb)
  have B1 := Lib.hid (B1.out.kept hb)
  have HXV := Lib.hid (HXV.out.kept hb)
  clear hb
  have BB := B1.out
  have cB := fun i => BB.cell i
  have fB := fun i => BB.free i
  have lB := BB.lt
  have mB := Nat.lt_succ_of_lt lB
  go_wp2_with fail
  clear cB fB lB mB BB
  refine (Book_any _ _ b _ (HL.out.kept HB.out)).mono ?_
  rintro e w2 ⟨a1, a2, rfl, hq, hb⟩
  have HQ := Lib.hid hq
  clear hq
  have HB := Lib.hid (up_later HB.out hb)
  have B1 := Lib.hid (B1.out.kept hb)
  have HXV := Lib.hid (HXV.out.kept hb)
  have HIs := Lib.hid (HIs.out.kept hb)
  clear hb
  unfold bookV
  have BB := B1.out
  have cB := fun i => BB.cell i
  have fB := fun i => BB.free i
  have lB := BB.lt
  have mB := Nat.lt_succ_of_lt lB
  go_wp2_with fail
  clear cB fB lB mB BB
  refine (list_any _ codes _ (HC.out.kept HB.out)).mono ?_
  rintro e w3 ⟨lv, rfl, hq, hb⟩
  have HP := Lib.hid hq
  clear hq
  have HB := Lib.hid (up_later HB.out hb)
  have B1 := Lib.hid (B1.out.kept hb)
  have HXV := Lib.hid (HXV.out.kept hb)
  have HIs := Lib.hid (HIs.out.kept hb)
  have HQ := Lib.hid (HQ.out.kept hb)
  clear hb
  have BB := B1.out
  have cB := fun i => BB.cell i
  have fB := fun i => BB.free i
  have lB := BB.lt
  have mB := Nat.lt_succ_of_lt lB
  go_wp2_with fail
  clear cB fB lB mB BB
  refine (Guesses_any _ X _ (HXV.out)).mono ?_
  rintro e w4 ⟨gv, rfl, hq, hb⟩
  have HG := Lib.hid hq
  clear hq
  have HB := Lib.hid (up_later HB.out hb)
  have B1 := Lib.hid (B1.out.kept hb)
  have HXV := Lib.hid (HXV.out.kept hb)
  have HIs := Lib.hid (HIs.out.kept hb)
  have HQ := Lib.hid (HQ.out.kept hb)
  have HP := Lib.hid (HP.out.kept hb)
  clear hb
  have BB := B1.out
  have cB := fun i => BB.cell i
  have fB := fun i => BB.free i
  have lB := BB.lt
  have mB := Nat.lt_succ_of_lt lB
  go_wp2_with fail
  clear cB fB lB mB BB
  refine (Possible_any _ _ _ _ b codes X i _ HQ.out HP.out (HG.out)).mono ?_
  rintro e w5 ⟨pv, rfl, ho, hb⟩
  rw [HF4.out] at ho ⊢
  clear HQ HP
  obtain ⟨At, pt, rfl⟩ := own_form' ho
  have HIt := Lib.hid (show IntsAt w5 (.slice At (P2).length pt) P2 from ints_of_own ho rfl (by show (P2).length ≤ 1000; have := HRl.out; omega))
  clear ho
  have HB := Lib.hid (up_later HB.out hb)
  have B1 := Lib.hid (B1.out.kept hb)
  have HXV := Lib.hid (HXV.out.kept hb)
  have HIs := Lib.hid (HIs.out.kept hb)
  clear hb
  have BB := B1.out
  have cB := fun i => BB.cell i
  have fB := fun i => BB.free i
  have lB := BB.lt
  have mB := Nat.lt_succ_of_lt lB
  go_wp2_with fail
  clear cB fB lB mB BB
  refine (Book_any _ _ b _ (HL.out.kept HB.out)).mono ?_
  rintro e w2 ⟨a1, a2, rfl, hq, hb⟩
  have HQ := Lib.hid hq
  clear hq
  have HB := Lib.hid (up_later HB.out hb)
  have B1 := Lib.hid (B1.out.kept hb)
  have HIs := Lib.hid (HIs.out.kept hb)
  have HIt := Lib.hid (HIt.out.kept hb)
  clear hb
  unfold bookV
  have BB := B1.out
  have cB := fun i => BB.cell i
  have fB := fun i => BB.free i
  have lB := BB.lt
  have mB := Nat.lt_succ_of_lt lB
  go_wp2_with fail
  clear cB fB lB mB BB
  refine (list_any _ codes _ (HC.out.kept HB.out)).mono ?_
  rintro e w3 ⟨lv, rfl, hq, hb⟩
  have HP := Lib.hid hq
  clear hq
  have HB := Lib.hid (up_later HB.out hb)
  have B1 := Lib.hid (B1.out.kept hb)
  have HIs := Lib.hid (HIs.out.kept hb)
  have HIt := Lib.hid (HIt.out.kept hb)
  have HQ := Lib.hid (HQ.out.kept hb)
  clear hb
  have BB := B1.out
  have cB := fun i => BB.cell i
  have fB := fun i => BB.free i
  have lB := BB.lt
  have mB := Nat.lt_succ_of_lt lB
  go_wp2_with fail
  clear cB fB lB mB BB
  refine (Fits_any _ _ _ _ b codes [] _ HQ.out HP.out (hnil.out _)).mono ?_
  rintro e w5 ⟨rfl, hb⟩
  rw [HF5.out]
  clear HQ HP
  have HB := Lib.hid (up_later HB.out hb)
  have B1 := Lib.hid (B1.out.kept hb)
  have HIs := Lib.hid (HIs.out.kept hb)
  have HIt := Lib.hid (HIt.out.kept hb)
  clear hb
  have BB := B1.out
  have cB := fun i => BB.cell i
  have fB := fun i => BB.free i
  have lB := BB.lt
  have mB := Nat.lt_succ_of_lt lB
  go_wp2_with fail
  clear cB fB lB mB BB
  refine (Book_any _ _ b _ (HL.out.kept HB.out)).mono ?_
  rintro e w2 ⟨a1, a2, rfl, hq, hb⟩
  have HQ := Lib.hid hq
  clear hq
  have HB := Lib.hid (up_later HB.out hb)
  have B1 := Lib.hid (B1.out.kept hb)
  have HIs := Lib.hid (HIs.out.kept hb)
  have HIt := Lib.hid (HIt.out.kept hb)
  clear hb
  unfold bookV
  have BB := B1.out
  have cB := fun i => BB.cell i
  have fB := fun i => BB.free i
  have lB := BB.lt
  have mB := Nat.lt_succ_of_lt lB
  go_wp2_with fail
  clear cB fB lB mB BB
  refine (list_any _ codes _ (HC.out.kept HB.out)).mono ?_
  rintro e w3 ⟨lv, rfl, hq, hb⟩
  have HP := Lib.hid hq
  clear hq
  have HB := Lib.hid (up_later HB.out hb)
  have B1 := Lib.hid (B1.out.kept hb)
  have HIs := Lib.hid (HIs.out.kept hb)
  have HIt := Lib.hid (HIt.out.kept hb)
  have HQ := Lib.hid (HQ.out.kept hb)
  clear hb
  have BB := B1.out
  have cB := fun i => BB.cell i
  have fB := fun i => BB.free i
  have lB := BB.lt
  have mB := Nat.lt_succ_of_lt lB
  go_wp2_with fail
  clear cB fB lB mB BB
  have hsq0 : 0 ≤ b.n * b.n ∧ b.n * b.n ≤ 1681 := ⟨Int.mul_nonneg (by omega) (by omega), Int.mul_le_mul (by omega) (by omega) (by omega) (by omega)⟩
  have hsq1 : 0 ≤ b.n * b.n * (b.n - 1) ∧ b.n * b.n * (b.n - 1) ≤ 1681 * 40 := ⟨Int.mul_nonneg hsq0.1 (by omega), Int.mul_le_mul hsq0.2 (by omega) (by omega) (by omega)⟩
  have hWa : IntKind.i64.wrap (b.n * b.n) = b.n * b.n := wrapK_in _ 100000 (by omega) (by omega)
  have hWb : IntKind.i64.wrap (b.n - 1) = b.n - 1 := wrapK_in _ 100000 (by omega) (by omega)
  have hWc : IntKind.i64.wrap (b.n * b.n * (b.n - 1)) = T := by rw [← HT.out]; exact wrapK_in _ 100000 (by omega) (by omega)
  have hRb : ((R.length : Int) == b.n) = true := by rw [beq_iff_eq]; exact HRl.out
  clear hsq0 hsq1
  rcases Hcase.out with ⟨rfl, rfl, rfl⟩ | ⟨rfl, rfl, hle1, hle2, hall⟩
  · clear Hcase
    refine (Possible_any _ _ _ _ b codes [] i _ HQ.out HP.out (hnil.out _)).mono ?_
    rintro e w5 ⟨pv, rfl, ho, hb⟩
    rw [HF6.out] at ho ⊢
    clear HQ HP
    obtain ⟨Ar, pr, rfl⟩ := own_form' ho
    have HIr := Lib.hid (show IntsAt w5 (.slice Ar (R).length pr) R from ints_of_own ho rfl (by show (R).length ≤ 1000; have := HRl.out; omega))
    clear ho
    have HB := Lib.hid (up_later HB.out hb)
    have B1 := Lib.hid (B1.out.kept hb)
    have HIs := Lib.hid (HIs.out.kept hb)
    have HIt := Lib.hid (HIt.out.kept hb)
    clear hb
    have BB := B1.out
    have cB := fun i => BB.cell i
    have fB := fun i => BB.free i
    have lB := BB.lt
    have mB := Nat.lt_succ_of_lt lB
    go_wp2_with fail
    clear cB fB lB mB BB
    refine (awake_any _).mono ?_
    rintro e w9 ⟨rfl, hb⟩
    go_wp2_with fail
    go_ret
    exact ⟨rfl, up_later HB.out hb⟩
  · have d1 : decide (F1 < F2) = false := decide_eq_false (by omega)
    have d2 : decide (T < F1) = false := decide_eq_false (by omega)
    have d3 : ¬ F1 < F2 := by omega
    have d4 : ¬ T < F1 := by omega
    have Hall := Lib.hid hall
    clear Hcase hall
    refine (Possible_any _ _ _ _ b codes [] i _ HQ.out HP.out (hnil.out _)).mono ?_
    rintro e w5 ⟨pv, rfl, ho, hb⟩
    rw [HF6.out] at ho ⊢
    clear HQ HP
    obtain ⟨Ar, pr, rfl⟩ := own_form' ho
    have HIr := Lib.hid (show IntsAt w5 (.slice Ar (R).length pr) R from ints_of_own ho rfl (by show (R).length ≤ 1000; have := HRl.out; omega))
    clear ho
    have HB := Lib.hid (up_later HB.out hb)
    have B1 := Lib.hid (B1.out.kept hb)
    have HIs := Lib.hid (HIs.out.kept hb)
    have HIt := Lib.hid (HIt.out.kept hb)
    clear hb
    have BB := B1.out
    have cB := fun i => BB.cell i
    have fB := fun i => BB.free i
    have lB := BB.lt
    have mB := Nat.lt_succ_of_lt lB
    go_wp2_with fail
    clear cB fB lB mB BB
    clear hWa hWb hWc hRb d1 d2 d3 d4
    go_loopw [25] (fun j wr => ∃ k : Nat, k ≤ P2.length ∧ j = .int .i64 k ∧ Hid (IntsAt wr (.slice As P1.length ps) P1) ∧ Hid (IntsAt wr (.slice At P2.length pt) P2) ∧ Hid (Below w0.heap.size w0 wr)) (fun j _ => P2.length - (intOf j).toNat)
    case atStart => exact ⟨0, by omega, rfl, HIs, HIt, HB⟩
    case round =>
      clear HIs HIt HB
      obtain ⟨k, hk, rfl, HIs, HIt, HB⟩ := hrel
      have k0 : (0 : Int) ≤ (k : Int) := by omega
      by_cases hlt : k < P2.length
      · have k1 : (k : Int) < (P2.length : Int) := by omega
        obtain ⟨z, hz⟩ : ∃ z, P2[k]? = some z := ⟨_, List.getElem?_eq_getElem hlt⟩
        have HA1 := Lib.hid (Hall.out z (List.mem_of_getElem? hz))
        have HR := Lib.hid HIt.out
        obtain ⟨b1, o1, rfl, _, _⟩ := HR.out.at rfl hz
        have c0 : wr.cell? ⟨b1, o1 + k, none⟩ = some (.int .i64 z) := by simpa using HR.out.cellAt hz (j := 0) rfl
        clear hz
        go_wp2_with fail
        refine (has_any _ P1 z _ HIs.out).mono ?_
        rintro e w6 ⟨rfl, hb⟩
        rw [HA1.out]
        clear c0 HR
        have HB := Lib.hid (up_later HB.out hb)
        have HIs := Lib.hid (HIs.out.kept hb)
        have HIt := Lib.hid (HIt.out.kept hb)
        clear hb
        go_wp2_with fail
        go_roundw
        case rel => exact ⟨k + 1, by omega, by go_num, HIs, HIt, HB⟩
        case measure => simp [intOf]; omega
      · go_wp2_with fail
        refine (awake_any _).mono ?_
        rintro e w9 ⟨rfl, hb⟩
        go_wp2_with fail
        go_ret
        exact ⟨rfl, up_later HB.out hb⟩
end Go.Proofs.Ytkhfkmfofhnmdaa

namespace Go.Proofs.Ytkhfkmfofhnmdaa
open Go.ChangeShapes Go.WideShapes Go.ChangeAt Go.RowKit
section
variable {H : Type} {enc : TypeId × Value → H} {W : World} {base : Nat} {spare : Nat → Bool} {held : Bool}
theorem open_guess {fuel : Nat} {cs : List Value} {x : DataW H × List MemPlace} (h : DataW.trod enc Try.prog W base spare held fuel 87 cs = some x) : ∃ k : Gs, cs = k.cells ∧ True := by
  obtain ⟨ns, rfl, hn⟩ := open_ints_of (n := 2) (fs := Try.prog.fieldsOf 87) (by kernel_rfl) (by kernel_rfl) (by kernel_rfl) int3 cell3 h
  rcases ns with _ | ⟨a, _ | ⟨b, _ | ⟨c, r⟩⟩⟩ <;> simp at hn
  exact ⟨⟨a, b⟩, rfl, trivial⟩
theorem open_guesses {fuel : Nat} {cs : List Value} {x : DataW H × List MemPlace} (h : DataW.trod enc Try.prog W base spare held fuel 63 cs = some x) : ∃ v l, cs = [v] ∧ RowsAny W v 2 Gs.cells l := by
  obtain ⟨v, l, e, r, _⟩ := open_rows (e := 87) (sz := 2) (cells := Gs.cells) (p := fun _ => True) (by kernel_rfl) (by kernel_rfl) (by omega) (fun _ _ _ h => open_guess h) h
  exact ⟨v, l, e, r⟩
end
end Go.Proofs.Ytkhfkmfofhnmdaa

namespace Go.Proofs.Ytkhfkmfofhnmdaa
open Go.ChangeShapes Go.WideShapes Go.ChangeAt Go.RowKit

set_option maxRecDepth 100000 in
theorem cipherMore_lifted (os : Os) (started : os.Started) (H : Type) (enc : TypeId × Value → H) :
    ReturnsInHanded {} Try.checked os 13 .any (Rows.cipherMoreSpec.pre6 enc Try.prog Try.f13 Rows.cipherMoreRow.domain false) (Rows.cipherMoreSpec.post enc Try.prog Try.f13 false true false false) := by
  refine returnsInHanded_of_change (C := Try.checked) own_knob started (by kernel_rfl) Try.func13
    (ChangeSpec.witness6 (enc := enc) (C := Try.checked) false ⟨#[], #[.agg #[.int .i64 0, .int .i64 0, .slice Option.none 0 0, .slice Option.none 0 0], .slice Option.none 0 0, .slice Option.none 0 0, .agg #[.int .i64 0, .int .i64 0], .int .u8 0], []⟩ 8 (by kernel_rfl) (by kernel_rfl) (by kernel_rfl) (by kernel_rfl)) ?_
  intro W base args ds gs before hval0 hW hcnd _
  have hval : ∀ (j : Nat) t v, Try.f13.params[j]? = some t → args[j]? = some v → Value.okWide Try.prog W .any base t v := hval0
  have hW' := hW
  obtain ⟨p, q, hA0, hV, rfl, hfz, hnd⟩ := hW
  have hA : DataW.TrodAll enc Try.prog W 0 (fun _ => true) true Try.f13.params.toList args.toList ds p := hA0
  rw [Try.params13] at hA hval
  have hlt : ∀ x ∈ p, x.block < W.heap.size := fun x hx => hW'.lt x (List.mem_append_left _ hx)
  have hAk := hA
  obtain ⟨v0, vs0, d0, ds0, p0, q0, hargs, rfl, rfl, h0, r0⟩ := trodAll_cons hA
  obtain ⟨v1, vs1, d1, ds1, p1, q1, rfl, rfl, rfl, h1, r1⟩ := trodAll_cons r0
  obtain ⟨v2, vs2, d2, ds2, p2, q2, rfl, rfl, rfl, h2, r2⟩ := trodAll_cons r1
  obtain ⟨v3, vs3, d3, ds3, p3, q3, rfl, rfl, rfl, h3, r3⟩ := trodAll_cons r2
  obtain ⟨v4, vs4, d4, ds4, p4, q4, rfl, rfl, rfl, h4, r4⟩ := trodAll_cons r3
  obtain ⟨rfl, rfl, rfl⟩ := trodAll_nil r4
  obtain rfl : args = #[v0, v1, v2, v3, v4] := by cases args; simp_all
  obtain ⟨rfl, rfl⟩ := trodVars_none hV
  obtain ⟨a4, rfl, rfl, rfl, w4⟩ := open_int Try.underlying5 (hval 4 5 v4 rfl rfl) h4
  obtain ⟨cs, rfl, _⟩ := okWide_struct und25 (hval 0 25 v0 rfl rfl)
  obtain ⟨fuel, h0⟩ := h0
  obtain ⟨u1, u2, b, hcs, hL⟩ := open_book h0
  obtain rfl : cs = #[iv b.n, iv b.w, u1, u2] := by
    have h : cs.toList = [iv b.n, iv b.w, u1, u2] := hcs
    cases cs
    simp at h
    rw [h]
  obtain ⟨ba1, len1, cap1, rfl⟩ := okWide_slice Try.underlying23 (hval 1 23 v1 rfl rfl)
  obtain ⟨fuel1, h1⟩ := h1
  obtain ⟨x1, l1, e1, hl1⟩ := open_list h1
  obtain rfl : x1 = .slice ba1 len1 cap1 := by
    have h : [Value.slice ba1 len1 cap1] = [x1] := e1
    injection h with h _
    exact h.symm
  obtain ⟨ba2, len2, cap2, rfl⟩ := okWide_slice (show Try.prog.underlying 63 = some (.slice 87) by kernel_rfl) (hval 2 63 v2 rfl rfl)
  obtain ⟨fuel2, h2⟩ := h2
  obtain ⟨x2, l2, e2, hl2⟩ := open_guesses h2
  obtain rfl : x2 = .slice ba2 len2 cap2 := by
    have h : [Value.slice ba2 len2 cap2] = [x2] := e2
    injection h with h _
    exact h.symm
  obtain ⟨cs3, rfl, _⟩ := okWide_struct (show Try.prog.underlying 87 = some (.struct (Try.prog.fieldsOf 87)) by kernel_rfl) (hval 3 87 v3 rfl rfl)
  obtain ⟨fuel3, h3⟩ := h3
  obtain ⟨x3, hx3, _⟩ := open_guess h3
  obtain rfl : cs3 = #[iv x3.a, iv x3.p] := by
    have h : cs3.toList = [iv x3.a, iv x3.p] := hx3
    cases cs3
    simp at h
    rw [h]
  clear hA0 hval0 hval hA
  simp only [List.append_nil] at hW'
  simp only [List.append_nil] at hAk hlt
  refine (more_law u1 u2 b _ l1 _ l2 x3 a4 W hL hl1 hl2 (bounds_u8 w4)).mono fun e W' ⟨he, hg⟩ => ?_
  subst he
  refine ⟨_, rfl, post_below (pv := []) hW' hg (fun _ _ _ => (trodAll_cons_mk (shut_bool Try.underlying4 _) trodAll_mk0)) (fun sp hsp => ?_) (fun _ _ => rfl) (List.append_nil _).symm
    (ok_one (by kernel_rfl) rfl (okWide_bool_mk Try.underlying4 _))⟩
  rw [Try.params13]
  refine args_stay laid_out hg (fun t ht => ?_) hAk hlt sp (fun x hx => hsp x (by first | exact hx | simpa using hx))
  simp only [List.mem_cons, List.not_mem_nil, or_false] at ht
  rcases ht with rfl | rfl | rfl | rfl | rfl
  · exact ⟨by kernel_rfl, by have h : decide (25 < Try.prog.types.size) = true := (by kernel_rfl); exact of_decide_eq_true h⟩
  · exact ⟨by kernel_rfl, by have h : decide (23 < Try.prog.types.size) = true := (by kernel_rfl); exact of_decide_eq_true h⟩
  · exact ⟨by kernel_rfl, by have h : decide (63 < Try.prog.types.size) = true := (by kernel_rfl); exact of_decide_eq_true h⟩
  · exact ⟨by kernel_rfl, by have h : decide (87 < Try.prog.types.size) = true := (by kernel_rfl); exact of_decide_eq_true h⟩
  · exact ⟨by kernel_rfl, by have h : decide (5 < Try.prog.types.size) = true := (by kernel_rfl); exact of_decide_eq_true h⟩

theorem cipherMore_over : Rows.cipherMoreRow.holds Try.pinned (OpenSpec.ofChange Rows.cipherMoreSpec) :=
  OpenClaim.holds_of_wide 13 Try.f13 rfl rfl rfl rfl rfl rfl rfl ⟨rfl, rfl, rfl, rfl, rfl⟩ rfl rfl rfl rfl rfl (by kernel_rfl) Try.func13 (by kernel_rfl)
    (of_decide_eq_true (by kernel_rfl)) (by unfold Func.isWrapper; first | (rw [if_pos (by decide +kernel)]; kernel_rfl) | (rw [if_neg (by decide +kernel)]; exact ⟨rfl, rfl⟩))
    (fun os started H enc _ => cipherMore_lifted os started H enc)

theorem CipherMore_holds : Rows.CipherMoreSaid := cipherMore_over

end Go.Proofs.Ytkhfkmfofhnmdaa

namespace Go.Proofs.Ytkhfkmfofhnmdaa
open Go.RowKit Go.Shelf
attribute [local go_sem] Oper.semAt_some

set_option maxRecDepth 100000 in
set_option maxHeartbeats 1500000 in
theorem RAgrees_any (n ws : Int) (v1 v2 v3 v : Value) (k : Ky) (codes : List Int) (gs : List Gs) (w : World) (h1 : 1 ≤ n ∧ n ≤ 1000) (h2 : smallK k) (hc : IntsAt w v3 codes) (hg : RowsAt w v 2 Gs.cells gs)
    (hin : ∀ x ∈ gs, 0 ≤ x.a ∧ x.a < codes.length ∧ 0 ≤ x.p ∧ x.p ≤ 1000) :
    Calls Try.prog 81 #[.agg #[iv n, iv ws, v1, v2], .agg #[iv k.m, iv k.a, iv k.s], v3, v] w fun e w' => e = .returned (.bool (agreeB n codes gs k)) ∧ Below w.heap.size w w' := by
  obtain ⟨hc8, A4, cap4, rfl, _, _⟩ := hc.form
  obtain ⟨_, A3, cap3, rfl, _, _⟩ := hg.form
  have HL := Lib.hid hg
  have HV := Lib.hid hc
  have HI := Lib.hid hin
  have HK2 := Lib.hid h2
  obtain ⟨n1, n2⟩ := h1
  clear hc hg hin h2
  go_enter Try.func81, Try.ntmps81
  go_wp2_with fail
  have B2 := Lib.hid ((Box.new (w := w) (t := 25) (cs := #[iv n, iv ws, v1, v2]) rfl).alloc (.cells #[iv k.m, iv k.a, iv k.s] 85))
  have B3 := Lib.hid (Box.new (w := w.alloc (.cells #[iv n, iv ws, v1, v2] 25)) (g := w.heap.size + 1) (t := 85) (cs := #[iv k.m, iv k.a, iv k.s]) (by simp))
  have HB := Lib.hid (up_alloc (up_alloc (up0 (w := w)) (.cells #[iv n, iv ws, v1, v2] 25)) (.cells #[iv k.m, iv k.a, iv k.s] 85))
  go_loopw [9] (fun i wr => ∃ q : Nat, q ≤ gs.length ∧ i = .int .i64 q ∧ Hid (∀ x ∈ gs.take q, (codeI n k x.p x.a == codes.getD x.a.toNat 0) = true) ∧ Hid (Box wr w.heap.size 25 #[iv n, iv ws, v1, v2]) ∧ Hid (Box wr (w.heap.size + 1) 85 #[iv k.m, iv k.a, iv k.s]) ∧ Hid (Below w.heap.size w wr)) (fun i _ => gs.length - (intOf i).toNat)
  case atStart => exact ⟨0, by omega, rfl, by simp [Hid], B2, B3, HB⟩
  case round =>
    clear B2 B3 HB
    obtain ⟨q, hq, rfl, Hno, B2, B3, HB⟩ := hrel
    have M2 := B2.out
    have M3 := B3.out
    have k0 : (0 : Int) ≤ (q : Int) := by omega
    by_cases hlt : q < gs.length
    · obtain ⟨x, hx⟩ : ∃ x, gs[q]? = some x := ⟨_, List.getElem?_eq_getElem hlt⟩
      obtain ⟨x1, x2, x3, x4⟩ := HI.out x (List.mem_of_getElem? hx)
      obtain ⟨xa, p⟩ := x
      simp only at x1 x2 x3 x4
      obtain ⟨j, rfl⟩ : ∃ j : Nat, xa = j := ⟨xa.toNat, by omega⟩
      obtain ⟨c, hcj⟩ : ∃ c, codes[j]? = some c := ⟨_, List.getElem?_eq_getElem (by omega)⟩
      have HR := Lib.hid (HL.out.kept HB.out)
      have HCr := Lib.hid (HV.out.kept HB.out)
      obtain ⟨b1, o1, rfl, _, _⟩ := HR.out.at rfl hx
      obtain ⟨b2, o2, rfl, _, _⟩ := HCr.out.at rfl hcj
      have k1 : (q : Int) < (gs.length : Int) := by omega
      obtain ⟨e, he⟩ : ∃ e, codeI n k p j = e := ⟨_, rfl⟩
      have HE := Lib.hid he
      have Hx := Lib.hid hx
      have Hcj := Lib.hid hcj
      have hg9 : codes.getD (j : Int).toNat 0 = c := by rw [Int.toNat_natCast, List.getD_eq_getElem?_getD, hcj]; rfl
      have Hgd := Lib.hid hg9
      clear hx hcj hg9 he
      go_wp2_with fail
      apply wp_region_by 22 [(Fact.eq _), (Fact.eq _), (Fact.eq _), (Fact.eq _), (Fact.eq _), (Fact.eq _), (Fact.eq _), (Fact.eq _), (Fact.eq _), (Fact.eq _), (Fact.eq _), (Fact.eq _), (Fact.eq (iv e)), (Fact.eq _), (Fact.eq _), (Fact.eq _), (Fact.eq _), (Fact.eq _), (Fact.eq _), (Fact.eq _), (Fact.eq _), (Fact.eq _)]
      case hm => kernel_rfl
      case hB => kernel_rfl
      case hA => (intro vs; simp only [List.take_succ_cons, List.take_zero, putAll, if_true, Act.put, List.setIfInBounds_toArray, List.set_cons_zero, List.set_cons_succ]; exact rfl)
      case hstep =>
        intro vs
        refine And.intro (fun w hw hd => ?_) ?_
        · refine ite_yes rfl ?_
          have c_M2 := fun i => (M2.kept hw).cell i
          have c_M3 := fun i => (M3.kept hw).cell i
          simp only [Gives]
          go_simp
          exact ⟨Below.refl _ _, rfl, fun h => by cases h⟩
        refine And.intro (fun w hw hd => ?_) ?_
        · refine ite_yes rfl ?_
          have c_M2 := fun i => (M2.kept hw).cell i
          have c_M3 := fun i => (M3.kept hw).cell i
          simp only [Gives]
          go_simp
          exact ⟨Below.refl _ _, rfl, fun h => by cases h⟩
        refine And.intro (fun w hw hd => ?_) ?_
        · refine ite_yes rfl ?_
          simp only [Gives]
          go_simp
          exact ⟨Below.refl _ _, rfl, fun h => by cases h⟩
        refine And.intro (fun w hw hd => ?_) ?_
        · refine ite_yes rfl ?_
          simp only [Gives]
          go_simp
          exact ⟨Below.refl _ _, rfl, fun h => by cases h⟩
        refine And.intro (fun w hw hd => ?_) ?_
        · have d2 := hd 2 (by decide) rfl
          change vs 2 = _ at d2
          have d3 := hd 3 (by decide) rfl
          change vs 3 = _ at d3
          refine ite_yes rfl ?_
          simp only [Gives]
          go_simp
          exact ⟨Below.refl _ _, rfl, fun h => by cases h⟩
        refine And.intro (fun w hw hd => ?_) ?_
        · have d4 := hd 4 (by decide) rfl
          change vs 4 = _ at d4
          refine ite_yes rfl ?_
          simp only [Gives]
          go_simp
          exact ⟨Below.refl _ _, rfl, fun h => by cases h⟩
        refine And.intro (fun w hw hd => ?_) ?_
        · have d5 := hd 5 (by decide) rfl
          change vs 5 = _ at d5
          refine ite_yes rfl ?_
          have c_M2 := fun i => (M2.kept hw).cell i
          have c_M3 := fun i => (M3.kept hw).cell i
          have q0 : w.cell? ⟨b1, o1 + q * 2, none⟩ = some (.int .i64 (j : Int)) := (HR.out.kept hw).cellAt Hx.out (j := 0) rfl
          have q1 : w.cell? ⟨b1, o1 + q * 2 + 1, none⟩ = some (.int .i64 p) := (HR.out.kept hw).cellAt Hx.out (j := 1) rfl
          have q2 : w.cell? ⟨b2, o2 + j, none⟩ = some (.int .i64 c) := by simpa using (HCr.out.kept hw).cellAt Hcj.out (j := 0) rfl
          simp only [Gives]
          go_simp
          exact ⟨Below.refl _ _, rfl, fun h => by cases h⟩
        refine And.intro (fun w hw hd => ?_) ?_
        · refine ite_yes rfl ?_
          simp only [Gives]
          go_simp
          exact ⟨Below.refl _ _, rfl, fun h => by cases h⟩
        refine And.intro (fun w hw hd => ?_) ?_
        · refine ite_yes rfl ?_
          simp only [Gives]
          go_simp
          exact ⟨Below.refl _ _, rfl, fun h => by cases h⟩
        refine And.intro (fun w hw hd => ?_) ?_
        · have d7 := hd 7 (by decide) rfl
          change vs 7 = _ at d7
          have d8 := hd 8 (by decide) rfl
          change vs 8 = _ at d8
          refine ite_yes rfl ?_
          simp only [Gives]
          go_simp
          exact ⟨Below.refl _ _, rfl, fun h => by cases h⟩
        refine And.intro (fun w hw hd => ?_) ?_
        · have d9 := hd 9 (by decide) rfl
          change vs 9 = _ at d9
          refine ite_yes rfl ?_
          simp only [Gives]
          go_simp
          exact ⟨Below.refl _ _, rfl, fun h => by cases h⟩
        refine And.intro (fun w hw hd => ?_) ?_
        · have d10 := hd 10 (by decide) rfl
          change vs 10 = _ at d10
          refine ite_yes rfl ?_
          have c_M2 := fun i => (M2.kept hw).cell i
          have c_M3 := fun i => (M3.kept hw).cell i
          have q0 : w.cell? ⟨b1, o1 + q * 2, none⟩ = some (.int .i64 (j : Int)) := (HR.out.kept hw).cellAt Hx.out (j := 0) rfl
          have q1 : w.cell? ⟨b1, o1 + q * 2 + 1, none⟩ = some (.int .i64 p) := (HR.out.kept hw).cellAt Hx.out (j := 1) rfl
          have q2 : w.cell? ⟨b2, o2 + j, none⟩ = some (.int .i64 c) := by simpa using (HCr.out.kept hw).cellAt Hcj.out (j := 0) rfl
          simp only [Gives]
          go_simp
          exact ⟨Below.refl _ _, rfl, fun h => by cases h⟩
        refine And.intro (fun w hw hd => ?_) ?_
        · have d0 := hd 0 (by decide) rfl
          change vs 0 = _ at d0
          have d1 := hd 1 (by decide) rfl
          change vs 1 = _ at d1
          have d6 := hd 6 (by decide) rfl
          change vs 6 = _ at d6
          have d11 := hd 11 (by decide) rfl
          change vs 11 = _ at d11
          refine ite_yes rfl ?_
          simp only [Gives]
          go_simp
          refine (RCodeOf_any n ws _ _ k p j w ⟨n1, n2⟩ HK2.out (by omega) (by omega)).mono ?_
          rintro e7 w7 ⟨rfl, hb⟩
          rw [HE.out]
          exact ⟨_, rfl, hb, rfl, fun h => by cases h⟩
        refine And.intro (fun w hw hd => ?_) ?_
        · refine ite_yes rfl ?_
          simp only [Gives]
          go_simp
          exact ⟨Below.refl _ _, rfl, fun h => by cases h⟩
        refine And.intro (fun w hw hd => ?_) ?_
        · refine ite_yes rfl ?_
          simp only [Gives]
          go_simp
          exact ⟨Below.refl _ _, rfl, fun h => by cases h⟩
        refine And.intro (fun w hw hd => ?_) ?_
        · refine ite_yes rfl ?_
          simp only [Gives]
          go_simp
          exact ⟨Below.refl _ _, rfl, fun h => by cases h⟩
        refine And.intro (fun w hw hd => ?_) ?_
        · have d14 := hd 14 (by decide) rfl
          change vs 14 = _ at d14
          have d15 := hd 15 (by decide) rfl
          change vs 15 = _ at d15
          refine ite_yes rfl ?_
          simp only [Gives]
          go_simp
          exact ⟨Below.refl _ _, rfl, fun h => by cases h⟩
        refine And.intro (fun w hw hd => ?_) ?_
        · have d16 := hd 16 (by decide) rfl
          change vs 16 = _ at d16
          refine ite_yes rfl ?_
          simp only [Gives]
          go_simp
          exact ⟨Below.refl _ _, rfl, fun h => by cases h⟩
        refine And.intro (fun w hw hd => ?_) ?_
        · have d17 := hd 17 (by decide) rfl
          change vs 17 = _ at d17
          refine ite_yes rfl ?_
          have c_M2 := fun i => (M2.kept hw).cell i
          have c_M3 := fun i => (M3.kept hw).cell i
          have q0 : w.cell? ⟨b1, o1 + q * 2, none⟩ = some (.int .i64 (j : Int)) := (HR.out.kept hw).cellAt Hx.out (j := 0) rfl
          have q1 : w.cell? ⟨b1, o1 + q * 2 + 1, none⟩ = some (.int .i64 p) := (HR.out.kept hw).cellAt Hx.out (j := 1) rfl
          have q2 : w.cell? ⟨b2, o2 + j, none⟩ = some (.int .i64 c) := by simpa using (HCr.out.kept hw).cellAt Hcj.out (j := 0) rfl
          simp only [Gives]
          go_simp
          exact ⟨Below.refl _ _, rfl, fun h => by cases h⟩
        refine And.intro (fun w hw hd => ?_) ?_
        · have d13 := hd 13 (by decide) rfl
          change vs 13 = _ at d13
          have d18 := hd 18 (by decide) rfl
          change vs 18 = _ at d18
          refine ite_yes rfl ?_
          simp only [Gives]
          go_simp
          exact ⟨Below.refl _ _, rfl, fun h => by cases h⟩
        refine And.intro (fun w hw hd => ?_) ?_
        · have d19 := hd 19 (by decide) rfl
          change vs 19 = _ at d19
          refine ite_yes rfl ?_
          have c_M2 := fun i => (M2.kept hw).cell i
          have c_M3 := fun i => (M3.kept hw).cell i
          have q0 : w.cell? ⟨b1, o1 + q * 2, none⟩ = some (.int .i64 (j : Int)) := (HR.out.kept hw).cellAt Hx.out (j := 0) rfl
          have q1 : w.cell? ⟨b1, o1 + q * 2 + 1, none⟩ = some (.int .i64 p) := (HR.out.kept hw).cellAt Hx.out (j := 1) rfl
          have q2 : w.cell? ⟨b2, o2 + j, none⟩ = some (.int .i64 c) := by simpa using (HCr.out.kept hw).cellAt Hcj.out (j := 0) rfl
          simp only [Gives]
          go_simp
          exact ⟨Below.refl _ _, rfl, fun h => by cases h⟩
        refine And.intro (fun w hw hd => ?_) ?_
        · have d12 := hd 12 (by decide) rfl
          change vs 12 = _ at d12
          have d20 := hd 20 (by decide) rfl
          change vs 20 = _ at d20
          refine ite_yes rfl ?_
          simp only [Gives]
          go_simp
          exact ⟨Below.refl _ _, rfl, fun h => by cases h⟩
        exact trivial
      intro vs wt hw hd hne hlo
      have d0 := hd 0 (by decide)
      change vs 0 = _ at d0
      have d1 := hd 1 (by decide)
      change vs 1 = _ at d1
      have d2 := hd 2 (by decide)
      change vs 2 = _ at d2
      have d3 := hd 3 (by decide)
      change vs 3 = _ at d3
      have d4 := hd 4 (by decide)
      change vs 4 = _ at d4
      have d5 := hd 5 (by decide)
      change vs 5 = _ at d5
      have d6 := hd 6 (by decide)
      change vs 6 = _ at d6
      have d7 := hd 7 (by decide)
      change vs 7 = _ at d7
      have d8 := hd 8 (by decide)
      change vs 8 = _ at d8
      have d9 := hd 9 (by decide)
      change vs 9 = _ at d9
      have d10 := hd 10 (by decide)
      change vs 10 = _ at d10
      have d11 := hd 11 (by decide)
      change vs 11 = _ at d11
      have d12 := hd 12 (by decide)
      change vs 12 = _ at d12
      have d13 := hd 13 (by decide)
      change vs 13 = _ at d13
      have d14 := hd 14 (by decide)
      change vs 14 = _ at d14
      have d15 := hd 15 (by decide)
      change vs 15 = _ at d15
      have d16 := hd 16 (by decide)
      change vs 16 = _ at d16
      have d17 := hd 17 (by decide)
      change vs 17 = _ at d17
      have d18 := hd 18 (by decide)
      change vs 18 = _ at d18
      have d19 := hd 19 (by decide)
      change vs 19 = _ at d19
      have d20 := hd 20 (by decide)
      change vs 20 = _ at d20
      have d21 := hd 21 (by decide)
      change vs 21 = _ at d21
      simp only [d0, d1, d2, d3, d4, d5, d6, d7, d8, d9, d10, d11, d13, d14, d15, d16, d17, d18, d19, d20, d21, List.drop_succ_cons, List.drop_nil]
      have M2 := M2.kept hw
      have M3 := M3.kept hw
      have c_M2 := fun i => M2.cell i
      have f_M2 := fun i => M2.free i
      have c_M3 := fun i => M3.cell i
      have f_M3 := fun i => M3.free i
      clear hd hne hlo d0 d1 d2 d3 d4 d5 d6 d7 d8 d9 d10 d11 d13 d14 d15 d16 d17 d18 d19 d20 d21
      by_cases hec : e = c
      · have hec1 : (e == c) = true := by rw [beq_iff_eq]; exact hec
        have hec2 : (e != c) = false := by rw [bne, hec1]; rfl
        have Hp := Lib.hid (show (codeI n k p j == codes.getD (j : Int).toNat 0) = true by rw [HE.out, Hgd.out, hec1])
        clear hec
        go_wp2_with fail
        go_roundw
        case rel => exact ⟨q + 1, by omega, by go_num, all_yes Hno.out Hx.out Hp.out, M2, M3, up_later HB.out hw⟩
        case measure => simp [intOf]; omega
      · have hec1 : (e == c) = false := by rw [beq_eq_false_iff_ne]; exact hec
        have hec2 : (e != c) = true := by rw [bne, hec1]; rfl
        have Hr := Lib.hid (show agreeB n codes gs k = false from all_off (List.mem_of_getElem? Hx.out) (by rw [HE.out, Hgd.out, hec1]))
        clear hec
        go_wp2_with fail
        go_ret
        exact ⟨by rw [Hr.out]; rfl, up_later HB.out hw⟩
    · have Hr := Lib.hid (show agreeB n codes gs k = true by
        have a := Hno.out
        rw [List.take_of_length_le (by omega)] at a
        exact List.all_eq_true.2 a)
      go_wp2_with fail
      go_ret
      exact ⟨by rw [Hr.out]; rfl, HB.out⟩
end Go.Proofs.Ytkhfkmfofhnmdaa

namespace Go.Proofs.Ytkhfkmfofhnmdaa
open Go.RowKit Go.Shelf
attribute [local go_sem] Oper.semAt_some

/-- What stands in a cell, as a number. -/
def cellN (w : World) (g k : Nat) : Nat := match w.cell? ⟨g, k, none⟩ with | some v => (intOf v).toNat | none => 0
theorem cellN_of {w : World} {g t k x : Nat} {cs : Array Value} (h : Box w g t cs) (hx : cs[k]? = some (iv (x : Int))) : cellN w g k = x := by
  unfold cellN
  rw [h.cell, hx]
  simp [intOf]
/-- Which plain numbers have been found, of all numbers up to 40. -/
def Seen (W : World) (q : Nat) (n c i : Int) (ks : List Ky) : Prop := ∃ cs : Array Value, Box W q 124 cs ∧ cs.size = 41 ∧ ∀ j : Nat, j < 41 → cs[j]? = some (.bool (possB n c i ks j))
theorem Seen.more {W : World} {q : Nat} {n c i : Int} {ks : List Ky} {x : Ky} {p : Nat} (h : Seen W q n c i ks) (hp : plainI n x c i = p) (hpn : p < 41) : Seen (W.setCell ⟨q, p, none⟩ (.bool true)) q n c i (ks ++ [x]) := by
  obtain ⟨cs, hb, hs, h⟩ := h
  refine ⟨_, hb.put p (.bool true), by simpa using hs, fun j hj => ?_⟩
  rw [Array.getElem?_setIfInBounds]
  by_cases e : p = j
  · subst e
    rw [if_pos rfl, if_pos (by omega)]
    simp [possB, hp]
  · rw [if_neg e, h j hj]
    have e2 : (plainI n x c i == (j : Int)) = false := by rw [hp, beq_eq_false_iff_ne]; omega
    simp [possB, List.any_append, e2]
/-- What the loops keep. -/
def FitS (w wr : World) (R : Array Value) (n c i : Int) (ks : List Ky) : Prop := Seen wr (w.heap.size + 1) n c i ks ∧ Box wr w.heap.size 25 R ∧ Below w.heap.size w wr ∧ w.heap.size + 1 + 1 < wr.heap.size
theorem FitS.kept {w wr w' : World} {R : Array Value} {n c i : Int} {ks : List Ky} (h : FitS w wr R n c i ks) (hb : Below wr.heap.size wr w') : FitS w w' R n c i ks := by
  obtain ⟨⟨cs, h1, h2⟩, h3, h4, h5⟩ := h
  exact ⟨⟨cs, h1.kept hb, h2⟩, h3.kept hb, up_later h4 hb, by have := hb.size; omega⟩
theorem FitS.set {w wr : World} {R : Array Value} {n c i : Int} {ks : List Ky} (h : FitS w wr R n c i ks) (k : Nat) (u : Value) : FitS w (wr.setCell ⟨w.heap.size + 1 + 1, k, none⟩ u) R n c i ks := by
  obtain ⟨⟨cs, h1, h2⟩, h3, h4, h5⟩ := h
  exact ⟨⟨cs, h1.far (p := ⟨w.heap.size + 1 + 1, k, none⟩) (by simp) _, h2⟩, h3.far (p := ⟨w.heap.size + 1 + 1, k, none⟩) (by simp; omega) _, up_put h4 (by simp; omega) _, by simpa using h5⟩
theorem FitS.mark {w wr : World} {R : Array Value} {n c i : Int} {ks : List Ky} {x : Ky} {p : Nat} (h : FitS w wr R n c i ks) (hp : plainI n x c i = p) (hpn : p < 41) : FitS w (wr.setCell ⟨w.heap.size + 1, p, none⟩ (.bool true)) R n c i (ks ++ [x]) := by
  obtain ⟨h1, h3, h4, h5⟩ := h
  exact ⟨h1.more hp hpn, h3.far (p := ⟨w.heap.size + 1, p, none⟩) (by simp) _, up_put h4 (by simp) _, by simpa using h5⟩
theorem FitS.own {w wr w2 : World} {R : Array Value} {n c i : Int} {ks : List Ky} {v : Value} {N : Nat} {xs : List Value} {u : Value} (h : FitS w wr R n c i ks) (ho : wr.ownsRow w.heap.size 3 1 v N xs) (hg : (wr.alloc (.cells #[u] 3)).grownBy w2 v.ownBlock) : FitS w w2 R n c i ks := by
  obtain ⟨⟨cs, h1, h2⟩, h3, h4, h5⟩ := h
  have ho2 := ho.alloc (.cells #[u] 3)
  have n1 := h1.alloc (.cells #[u] 3)
  have n3 := h3.alloc (.cells #[u] 3)
  have b4 := up_alloc h4 (.cells #[u] 3)
  exact ⟨⟨cs, n1.grown hg (box_not_own n1 (by decide) ho2), h2⟩, n3.grown hg (box_not_own n3 (by decide) ho2), Below.grown b4 hg b4.size fun g e => (ho2.lt g e).1, by have := hg.size; simp at this; omega⟩
/-- The keys that count. -/
def ksB (inn : Bool) (l : List Ky) : List Ky := if inn then l else []
theorem ksB_no (l : List Ky) : ksB false l = [] := rfl
theorem ksB_yes (l : List Ky) : ksB true l = l := rfl

set_option maxRecDepth 100000 in
set_option maxHeartbeats 4000000 in
theorem RFits_nat (n : Nat) (ws : Int) (v1 v2 v3 v : Value) (codes : List Int) (gs : List Gs) (a : Int) (inn : Bool) (w : World) (hn : 13 ≤ n) (hn2 : n ≤ 41) (hc : IntsAt w v3 codes) (hg : RowsAt w v 2 Gs.cells gs)
    (hin : ∀ x ∈ gs, 0 ≤ x.a ∧ x.a < codes.length ∧ 0 ≤ x.p ∧ x.p ≤ 1000) (hci : ∀ x ∈ codes, 0 ≤ x ∧ x < n) (hcl : codes.length ≤ 10) (hu : ∀ m : Int, 0 < m → m < n → undoI m n * m % n = 1) (hi : belowB a codes.length = inn) :
    Calls Try.prog 44 #[.agg #[iv n, iv ws, v1, v2], v3, v, iv a] w fun e w' => ∃ u, e = .returned (.tuple #[iv ((agreeing n (agreeB n codes gs) (at3 n (n - 1) 0 0)).length : Nat), u]) ∧ IntsAt w' u (possL n (codes.getD a.toNat 0) a (ksB inn (agreeing n (agreeB n codes gs) (at3 n (n - 1) 0 0))) 41) ∧ Below w.heap.size w w' := by
  obtain ⟨i0, hi0, hz0, hz1, hz2⟩ := info_parts int_info
  obtain ⟨_, A4, cap4, rfl, _, _⟩ := hc.form
  obtain ⟨_, A3, cap3, rfl, _, _⟩ := hg.form
  have HL := Lib.hid hg
  have HV := Lib.hid hc
  have HI := Lib.hid hin
  have HCI := Lib.hid hci
  have HU := Lib.hid hu
  have hN := at3_small hn2
  obtain ⟨c, hcc⟩ : ∃ c, codes.getD a.toNat 0 = c := ⟨_, rfl⟩
  rw [hcc]
  have HCC := Lib.hid hcc
  have HIn := Lib.hid hi
  have HIn2 := Lib.hid (show inB 0 ((codes.length : Int) - 1) a = inn by rw [inB_below]; exact hi)
  have hW : IntKind.i64.wrap ((codes.length : Int) - 1) = (codes.length : Int) - 1 := wrapK_in _ 1000 (by omega) (by omega)
  clear hc hg hin hci hu hcc hi
  go_enter Try.func44, Try.ntmps44
  go_wp2_with fail
  have HS : ∀ Z : Array Value, Z = Array.replicate 41 (.bool false) → Hid (FitS w (((w.alloc (.cells #[iv n, iv ws, v1, v2] 25)).alloc (.cells Z 124)).alloc (.cells #[iv 1, iv 0, iv 0] 85)) #[iv n, iv ws, v1, v2] n c a (ksB inn (agreeing n (agreeB n codes gs) (at3 n 0 0 0)))) := fun Z hZ => Lib.hid ⟨⟨_, (Box.new (w := w.alloc (.cells #[iv n, iv ws, v1, v2] 25)) (by simp)).alloc _, by simp [hZ], fun j hj => by
    rw [hZ, Array.getElem?_replicate, if_pos hj]
    simp [possB, ksB, agreeing, at3]⟩, ((Box.new (w := w) rfl).alloc _).alloc _, up_alloc (up_alloc (up_alloc up0 _) _) _, by simp⟩
  have K : ∀ Z : Array Value, Hid (Box (((w.alloc (.cells #[iv n, iv ws, v1, v2] 25)).alloc (.cells Z 124)).alloc (.cells #[iv 1, iv 0, iv 0] 85)) (w.heap.size + 1 + 1) 85 #[iv (((0 : Nat) : Int) + 1), iv 0, iv 0]) := fun Z => Lib.hid (Box.new (w := (w.alloc (.cells #[iv n, iv ws, v1, v2] 25)).alloc (.cells Z 124)) (by simp))
  go_loopw [10] (fun v wr => ∃ x : Nat, x ≤ n - 1 ∧ v = .int .i64 (agreeing n (agreeB n codes gs) (at3 n x 0 0)).length ∧ Hid (FitS w wr #[iv n, iv ws, v1, v2] n c a (ksB inn (agreeing n (agreeB n codes gs) (at3 n x 0 0)))) ∧ ∃ A S, Hid (Box wr (w.heap.size + 1 + 1) 85 #[iv ((x : Int) + 1), iv A, iv S])) (fun _ wr => n + 1 - cellN wr (w.heap.size + 1 + 1) 0)
  case atStart => exact ⟨0, by omega, by simp [at3, agreeing], HS _ rfl, _, _, K _⟩
  case round =>
    clear HS K
    obtain ⟨x, hx, rfl, HS, A, S, K⟩ := hrel
    have Kx := K.out
    have x7 : ((x + 1 : Nat) : Int) = (x : Int) + 1 := by omega
    by_cases hltx : x < n - 1
    · have hltx' : (x : Int) + 1 < (n : Int) := by omega
      have K6 := K.out
      have N5 := HS.out.2.1
      have c5 := fun i => N5.cell i
      have c6 := fun i => K6.cell i
      have f6 := fun i => K6.free i
      have l6 := K6.lt
      go_wp2_with fail
      clear c5 c6 f6 l6 N5
      have HS := Lib.hid (HS.out.set 1 (iv 0))
      have K := Lib.hid (show Box _ (w.heap.size + 1 + 1) 85 #[iv ((x : Int) + 1), iv ((0 : Nat) : Int), iv S] from Box.put K6 1 (iv 0))
      clear K6
      go_loopw [10] (fun v wr => ∃ y : Nat, y ≤ n ∧ v = .int .i64 (agreeing n (agreeB n codes gs) (at3 n x y 0)).length ∧ Hid (FitS w wr #[iv n, iv ws, v1, v2] n c a (ksB inn (agreeing n (agreeB n codes gs) (at3 n x y 0)))) ∧ ∃ S, Hid (Box wr (w.heap.size + 1 + 1) 85 #[iv ((x : Int) + 1), iv y, iv S])) (fun _ wr => n - cellN wr (w.heap.size + 1 + 1) 1)
      case atStart => exact ⟨0, by omega, rfl, HS, _, K⟩
      case round =>
        clear HS K
        obtain ⟨y, hy, rfl, HS, S, K⟩ := hrel
        have Ky := K.out
        by_cases hlty : y < n
        · have hlty' : (y : Int) < (n : Int) := by omega
          have K6 := K.out
          have N5 := HS.out.2.1
          have c5 := fun i => N5.cell i
          have c6 := fun i => K6.cell i
          have f6 := fun i => K6.free i
          have l6 := K6.lt
          go_wp2_with fail
          clear c5 c6 f6 l6 N5
          have HS := Lib.hid (HS.out.set 2 (iv 0))
          have K := Lib.hid (show Box _ (w.heap.size + 1 + 1) 85 #[iv ((x : Int) + 1), iv y, iv ((0 : Nat) : Int)] from Box.put K6 2 (iv 0))
          clear K6
          go_loopw [10] (fun v wr => ∃ z : Nat, z ≤ n ∧ v = .int .i64 (agreeing n (agreeB n codes gs) (at3 n x y z)).length ∧ Hid (FitS w wr #[iv n, iv ws, v1, v2] n c a (ksB inn (agreeing n (agreeB n codes gs) (at3 n x y z)))) ∧ Hid (Box wr (w.heap.size + 1 + 1) 85 #[iv ((x : Int) + 1), iv y, iv z])) (fun _ wr => n - cellN wr (w.heap.size + 1 + 1) 2)
          case atStart => exact ⟨0, by omega, rfl, HS, K⟩
          case round =>
            clear HS K
            obtain ⟨z, hz, rfl, HS, K⟩ := hrel
            have Kz := K.out
            by_cases hltz : z < n
            · have hltz' : (z : Int) < (n : Int) := by omega
              have hlen0 : (agreeing n (agreeB n codes gs) (at3 n x y z)).length ≤ 100000 := Nat.le_trans (agreeing_len _ _ _) (by have := at3_lt hltx hlty hltz; omega)
              obtain ⟨len, hlen⟩ : ∃ len, (agreeing n (agreeB n codes gs) (at3 n x y z)).length = len := ⟨_, rfl⟩
              rw [hlen] at hlen0 ⊢
              have HLen := Lib.hid hlen
              have HKey := Lib.hid (keyNo_at (x := x) hlty hltz)
              have Hsm := Lib.hid (show smallK ⟨(x : Int) + 1, y, z⟩ from ⟨by simp only; omega, by simp only; omega, by simp only; omega⟩)
              clear hlen
              have K6 := K.out
              have N5 := HS.out.2.1
              have c5 := fun i => N5.cell i
              have c6 := fun i => K6.cell i
              have f6 := fun i => K6.free i
              have l6 := K6.lt
              go_wp2_with fail
              clear c5 c6 f6 l6 N5
              refine (RAgrees_any n ws v1 v2 _ _ ⟨(x : Int) + 1, y, z⟩ codes gs _ (by omega) Hsm.out (HV.out.kept HS.out.2.2.1) (HL.out.kept HS.out.2.2.1) HI.out).mono ?_
              rintro e w2 ⟨rfl, hb⟩
              have HS := Lib.hid (HS.out.kept hb)
              have K := Lib.hid (K.out.kept hb)
              clear hb K6
              cases hag : agreeB n codes gs ⟨(x : Int) + 1, y, z⟩ with
              | false =>
                have HAg := Lib.hid (agreeing_no (show agreeB n codes gs (keyNo n (at3 n x y z)) = false by rw [HKey.out]; exact hag))
                rw [← HAg.out] at HS
                clear hag
                have K6 := K.out
                have N5 := HS.out.2.1
                have c5 := fun i => N5.cell i
                have c6 := fun i => K6.cell i
                have f6 := fun i => K6.free i
                have l6 := K6.lt
                go_wp2_with fail
                clear c5 c6 f6 l6 N5
                have K7 := K6.put 2 (iv ((z : Int) + 1))
                have e7 : ((z + 1 : Nat) : Int) = (z : Int) + 1 := by omega
                go_roundw
                case rel => exact ⟨z + 1, by omega, by rw [← at3_z, HAg.out, HLen.out] <;> go_num, by rw [← at3_z]; exact HS.out.set 2 _, by rw [e7]; exact K7⟩
                case measure => rw [cellN_of Kz (k := 2) (x := z) rfl, cellN_of K7 (k := 2) (x := z + 1) (by rw [e7]; rfl)]; omega
              | true =>
                have HAg := Lib.hid (agreeing_yes (show agreeB n codes gs (keyNo n (at3 n x y z)) = true by rw [HKey.out]; exact hag))
                have HLy := Lib.hid (show (agreeing n (agreeB n codes gs) (at3 n x y z + 1)).length = len + 1 by rw [HAg.out, List.length_append, HLen.out]; rfl)
                clear hag
                go_wp2_with fail
                refine (In_b a 0 ((codes.length : Int) - 1) inn _ HIn2.out).mono ?_
                rintro e w3 ⟨rfl, hb⟩
                have HS := Lib.hid (HS.out.kept hb)
                have K := Lib.hid (K.out.kept hb)
                clear hb
                cases inn with
                | false =>
                  have HS := Lib.hid (show FitS w w3 #[iv n, iv ws, v1, v2] n c a (ksB false (agreeing n (agreeB n codes gs) (at3 n x y z + 1))) by rw [ksB_no]; exact ksB_no _ ▸ HS.out)
                  have K6 := K.out
                  have N5 := HS.out.2.1
                  have c5 := fun i => N5.cell i
                  have c6 := fun i => K6.cell i
                  have f6 := fun i => K6.free i
                  have l6 := K6.lt
                  go_wp2_with fail
                  clear c5 c6 f6 l6 N5
                  have K7 := K6.put 2 (iv ((z : Int) + 1))
                  have e7 : ((z + 1 : Nat) : Int) = (z : Int) + 1 := by omega
                  go_roundw
                  case rel => exact ⟨z + 1, by omega, by rw [← at3_z, HLy.out] <;> go_num, by rw [← at3_z]; exact HS.out.set 2 _, by rw [e7]; exact K7⟩
                  case measure => rw [cellN_of Kz (k := 2) (x := z) rfl, cellN_of K7 (k := 2) (x := z + 1) (by rw [e7]; rfl)]; omega
                | true =>
                  have ha := belowB_iff.1 HIn.out
                  obtain ⟨i, rfl⟩ : ∃ i : Nat, a = i := ⟨a.toNat, by omega⟩
                  have hcj : codes[i]? = some c := by
                    have h := HCC.out
                    rw [Int.toNat_natCast, List.getD_eq_getElem?_getD, List.getElem?_eq_getElem (by omega)] at h
                    rw [List.getElem?_eq_getElem (by omega)]
                    exact congrArg some h
                  have hc0 := HCI.out c (List.mem_of_getElem? hcj)
                  have HCr := Lib.hid (HV.out.kept HS.out.2.2.1)
                  obtain ⟨bl, ol, rfl, _, _⟩ := HCr.out.at rfl hcj
                  have hp := plainI_in (n := (n : Int)) (k := ⟨(x : Int) + 1, y, z⟩) (p := c) (i := i) (by omega)
                  obtain ⟨p, hpp⟩ : ∃ p : Nat, plainI n ⟨(x : Int) + 1, y, z⟩ c i = p := ⟨(plainI n ⟨(x : Int) + 1, y, z⟩ c i).toNat, by omega⟩
                  have HP := Lib.hid hpp
                  rw [hpp] at hp
                  have p0 : (0 : Int) ≤ (p : Int) := by omega
                  have p1 : (p : Int) < 41 := by omega
                  have hp41 : p < 41 := by omega
                  have i0' : (0 : Int) ≤ (i : Int) := by omega
                  have i1 : (i : Int) < (codes.length : Int) := by omega
                  have Hcj := Lib.hid hcj
                  have HUx := Lib.hid (HU.out ((x : Int) + 1) (by omega) (by omega))
                  clear hcj hpp hp
                  go_wp2_with fail
                  have N5 := HS.out.2.1
                  have K6 := K.out
                  apply wp_region_by 9 [(Fact.eq _), (Fact.eq _), (Fact.eq _), (Fact.eq _), (Fact.eq _), (Fact.eq _), (Fact.eq _), (Fact.eq (iv p)), (Fact.eq _)]
                  case hm => kernel_rfl
                  case hB => kernel_rfl
                  case hA => (intro vs; simp only [List.take_succ_cons, List.take_zero, putAll, if_true, Act.put, List.setIfInBounds_toArray, List.set_cons_zero, List.set_cons_succ]; exact rfl)
                  case hstep =>
                    intro vs
                    refine And.intro (fun w hw hd => ?_) ?_
                    · refine ite_yes rfl ?_
                      have c_N5 := fun i => (N5.kept hw).cell i
                      have c_K6 := fun i => (K6.kept hw).cell i
                      simp only [Gives]
                      go_simp
                      exact ⟨Below.refl _ _, rfl, fun h => by cases h⟩
                    refine And.intro (fun w hw hd => ?_) ?_
                    · refine ite_yes rfl ?_
                      have c_N5 := fun i => (N5.kept hw).cell i
                      have c_K6 := fun i => (K6.kept hw).cell i
                      simp only [Gives]
                      go_simp
                      exact ⟨Below.refl _ _, rfl, fun h => by cases h⟩
                    refine And.intro (fun w hw hd => ?_) ?_
                    · refine ite_yes rfl ?_
                      simp only [Gives]
                      go_simp
                      exact ⟨Below.refl _ _, rfl, fun h => by cases h⟩
                    refine And.intro (fun w hw hd => ?_) ?_
                    · refine ite_yes rfl ?_
                      simp only [Gives]
                      go_simp
                      exact ⟨Below.refl _ _, rfl, fun h => by cases h⟩
                    refine And.intro (fun w hw hd => ?_) ?_
                    · have d2 := hd 2 (by decide) rfl
                      change vs 2 = _ at d2
                      have d3 := hd 3 (by decide) rfl
                      change vs 3 = _ at d3
                      refine ite_yes rfl ?_
                      simp only [Gives]
                      go_simp
                      exact ⟨Below.refl _ _, rfl, fun h => by cases h⟩
                    refine And.intro (fun w hw hd => ?_) ?_
                    · have d4 := hd 4 (by decide) rfl
                      change vs 4 = _ at d4
                      refine ite_yes rfl ?_
                      have c_N5 := fun i => (N5.kept hw).cell i
                      have c_K6 := fun i => (K6.kept hw).cell i
                      have q0 : w.cell? ⟨bl, ol + i, none⟩ = some (.int .i64 c) := by simpa using (HCr.out.kept hw).cellAt Hcj.out (j := 0) rfl
                      simp only [Gives]
                      go_simp
                      exact ⟨Below.refl _ _, rfl, fun h => by cases h⟩
                    refine And.intro (fun w hw hd => ?_) ?_
                    · refine ite_yes rfl ?_
                      simp only [Gives]
                      go_simp
                      exact ⟨Below.refl _ _, rfl, fun h => by cases h⟩
                    refine And.intro (fun w hw hd => ?_) ?_
                    · have d0 := hd 0 (by decide) rfl
                      change vs 0 = _ at d0
                      have d1 := hd 1 (by decide) rfl
                      change vs 1 = _ at d1
                      have d5 := hd 5 (by decide) rfl
                      change vs 5 = _ at d5
                      have d6 := hd 6 (by decide) rfl
                      change vs 6 = _ at d6
                      refine ite_yes rfl ?_
                      simp only [Gives]
                      go_simp
                      refine (RMeans_any n ws _ _ ⟨(x : Int) + 1, y, z⟩ c i w (by omega) Hsm.out HUx.out (by omega) (by omega)).mono ?_
                      rintro e7 w7 ⟨rfl, hb⟩
                      rw [HP.out]
                      exact ⟨_, rfl, hb, rfl, fun h => by cases h⟩
                    refine And.intro (fun w hw hd => ?_) ?_
                    · have d7 := hd 7 (by decide) rfl
                      change vs 7 = _ at d7
                      refine ite_yes rfl ?_
                      simp only [Gives]
                      go_simp
                      exact ⟨Below.refl _ _, rfl, fun h => by cases h⟩
                    exact trivial
                  intro vs wt hw hd hne hlo
                  have d0 := hd 0 (by decide)
                  change vs 0 = _ at d0
                  have d1 := hd 1 (by decide)
                  change vs 1 = _ at d1
                  have d2 := hd 2 (by decide)
                  change vs 2 = _ at d2
                  have d3 := hd 3 (by decide)
                  change vs 3 = _ at d3
                  have d4 := hd 4 (by decide)
                  change vs 4 = _ at d4
                  have d5 := hd 5 (by decide)
                  change vs 5 = _ at d5
                  have d6 := hd 6 (by decide)
                  change vs 6 = _ at d6
                  have d7 := hd 7 (by decide)
                  change vs 7 = _ at d7
                  have d8 := hd 8 (by decide)
                  change vs 8 = _ at d8
                  simp only [d0, d1, d2, d3, d4, d5, d6, d8, List.drop_succ_cons, List.drop_zero]
                  have N5 := N5.kept hw
                  have K6 := K6.kept hw
                  have c_N5 := fun i => N5.cell i
                  have f_N5 := fun i => N5.free i
                  have c_K6 := fun i => K6.cell i
                  have f_K6 := fun i => K6.free i
                  clear hd hne hlo d0 d1 d2 d3 d4 d5 d6 d8
                  have HSt := Lib.hid (HS.out.kept hw)
                  have Kt := K6
                  obtain ⟨cs, Q1, Q2, Q3⟩ := HSt.out.1
                  have cQ : wt.cell? ⟨w.heap.size + 1, p, none⟩ = some (.bool (possB n c i (ksB true (agreeing n (agreeB n codes gs) (at3 n x y z))) p)) := by rw [Q1.cell]; exact Q3 p hp41
                  have fQ := fun i => Q1.free i
                  have lQ := Q1.lt
                  have c6 := fun i => Kt.cell i
                  have f6 := fun i => Kt.free i
                  have l6 := Kt.lt
                  go_wp2_with fail
                  have HS := Lib.hid (HSt.out.mark HP.out hp41)
                  have K6 := Kt.far (p := ⟨w.heap.size + 1, p, none⟩) (by simp) (.bool true)
                  have K7 := K6.put 2 (iv ((z : Int) + 1))
                  have e7 : ((z + 1 : Nat) : Int) = (z : Int) + 1 := by omega
                  have HAy := Lib.hid (show ksB true (agreeing n (agreeB n codes gs) (at3 n x y z + 1)) = ksB true (agreeing n (agreeB n codes gs) (at3 n x y z)) ++ [⟨(x : Int) + 1, y, z⟩] by rw [ksB_yes, ksB_yes, HAg.out, HKey.out])
                  go_roundw
                  case rel => exact ⟨z + 1, by omega, by rw [← at3_z, HLy.out] <;> go_num, by rw [← at3_z, HAy.out]; exact HS.out.set 2 _, by rw [e7]; exact K7⟩
                  case measure => rw [cellN_of Kz (k := 2) (x := z) rfl, cellN_of K7 (k := 2) (x := z + 1) (by rw [e7]; rfl)]; omega
            · have hz' : z = n := by omega
              have e3 : at3 n x y z = at3 n x (y + 1) 0 := by rw [hz', at3_y]
              rw [e3] at HS ⊢
              have hltz' : ¬ (z : Int) < (n : Int) := by omega
              have K6 := K.out
              have N5 := HS.out.2.1
              have c5 := fun i => N5.cell i
              have c6 := fun i => K6.cell i
              have f6 := fun i => K6.free i
              have l6 := K6.lt
              go_wp2_with fail
              clear c5 c6 f6 l6 N5
              have K7 := K6.put 1 (iv ((y : Int) + 1))
              have e7 : ((y + 1 : Nat) : Int) = (y : Int) + 1 := by omega
              go_roundw
              case rel => exact ⟨y + 1, by omega, rfl, HS.out.set 1 _, _, by rw [e7]; exact K7⟩
              case measure => rw [cellN_of Ky (k := 1) (x := y) rfl, cellN_of K7 (k := 1) (x := y + 1) (by rw [e7]; rfl)]; omega
        · have hy' : y = n := by omega
          have e3 : at3 n x y 0 = at3 n (x + 1) 0 0 := by rw [hy', at3_x]
          rw [e3] at HS ⊢
          have hlty' : ¬ (y : Int) < (n : Int) := by omega
          have K6 := K.out
          have N5 := HS.out.2.1
          have c5 := fun i => N5.cell i
          have c6 := fun i => K6.cell i
          have f6 := fun i => K6.free i
          have l6 := K6.lt
          go_wp2_with fail
          clear c5 c6 f6 l6 N5
          have K7 := K6.put 0 (iv ((x : Int) + 1 + 1))
          have e7 : ((x + 1 : Nat) : Int) = (x : Int) + 1 := by omega
          go_roundw
          case rel => exact ⟨x + 1, by omega, rfl, HS.out.set 0 _, _, _, by rw [e7]; exact K7⟩
          case measure => rw [cellN_of Kx (k := 0) (x := x + 1) (by rw [x7]; rfl), cellN_of K7 (k := 0) (x := x + 1 + 1) (by rw [show ((x + 1 + 1 : Nat) : Int) = (x : Int) + 1 + 1 by omega]; rfl)]; omega
    · have hx' : x = n - 1 := by omega
      have hltx' : ¬ (x : Int) + 1 < (n : Int) := by omega
      rw [hx'] at HS ⊢
      obtain ⟨KS, hKS⟩ : ∃ KS, ksB inn (agreeing n (agreeB n codes gs) (at3 n (n - 1) 0 0)) = KS := ⟨_, rfl⟩
      obtain ⟨len, hlen⟩ : ∃ len, (agreeing n (agreeB n codes gs) (at3 n (n - 1) 0 0)).length = len := ⟨_, rfl⟩
      rw [hKS] at HS
      rw [hlen]
      have HKS := Lib.hid hKS
      have HLen := Lib.hid hlen
      clear hKS hlen
      have K6 := K.out
      have N5 := HS.out.2.1
      have c5 := fun i => N5.cell i
      have c6 := fun i => K6.cell i
      have f6 := fun i => K6.free i
      have l6 := K6.lt
      go_wp2_with fail
      clear c5 c6 f6 l6 N5
      clear K K6
      go_loopw [13, 14] (fun v j wr => ∃ k : Nat, k ≤ 41 ∧ j = .int .i64 k ∧ Hid (wr.ownsRow w.heap.size 3 1 v (possL n c a KS k).length ((possL n c a KS k).map iv)) ∧ Hid (FitS w wr #[iv n, iv ws, v1, v2] n c a KS)) (fun _ j _ => 41 - (intOf j).toNat)
      case atStart => exact ⟨0, by omega, rfl, Lib.hid (by simpa [possL] using World.ownsRow_nil _ _ _ _), HS⟩
      case round =>
        clear HS
        obtain ⟨k, hk, rfl, HO, HS⟩ := hrel
        have hsz := HS.out.2.2.1.size
        have hll := possL_len n c a KS k
        obtain ⟨A8, p8, rfl⟩ := own_form' HO.out
        by_cases hlt : k < 41
        · have hlt' : (k : Int) < 41 := by omega
          have k0 : (0 : Int) ≤ (k : Int) := by omega
          have HLs := Lib.hid (possL_succ (n := n) (c := c) (i := a) (ks := KS) (m := k))
          obtain ⟨cs, Q1, Q2, Q3⟩ := HS.out.1
          have cQ : wr.cell? ⟨w.heap.size + 1, k, none⟩ = some (.bool (possB n c a KS k)) := by rw [Q1.cell]; exact Q3 k hlt
          have lQ := Q1.lt
          cases hb : possB n c a KS k with
          | true =>
            rw [hb] at cQ
            have HQ := Lib.hid hb
            clear hb Q1 Q2 Q3
            go_wp2_with (at_builtin; refine wpList_append_own_at _ rfl (.tmp 74) (.tmp 76) 23 rfl w.heap.size 3 i0 _ 1 8 Try.underlying23 hi0 hz0 hz1 hz2 rfl (by decide) _ _ _ rfl (HO.out.alloc _) ⟨wr.heap.size, 0, none⟩ 1 1 [iv k] rfl rfl (cell_one_new _ _ _) (by simp [Value.oneCell']) (by unfold maxLen; omega) (by omega) (by simp; omega) ?_; intro v' w3 hown' hgrow _ _)
            go_roundw
            case rel =>
              refine ⟨k + 1, by omega, by go_num, ?_, HS.out.own HO.out hgrow⟩
              rw [HLs.out, HQ.out, if_pos rfl, List.length_append, List.map_append]
              exact hown'
            case measure => simp [intOf]; omega
          | false =>
            rw [hb] at cQ
            have HQ := Lib.hid hb
            clear hb Q1 Q2 Q3
            go_wp2_with fail
            go_roundw
            case rel => exact ⟨k + 1, by omega, by go_num, Lib.hid (by rw [HLs.out, HQ.out]; simpa using HO.out), HS⟩
            case measure => simp [intOf]; omega
        · have hke : k = 41 := by omega
          subst hke
          have HI2 := Lib.hid (ints_of_own HO.out rfl (by omega))
          go_wp2_with fail
          go_ret2
          exact ⟨.slice A8 (possL n c a KS 41).length p8, by rw [HLen.out]; rfl, by rw [HKS.out]; exact HI2.out, HS.out.2.2.1⟩
end Go.Proofs.Ytkhfkmfofhnmdaa

namespace Go.Proofs.Ytkhfkmfofhnmdaa
open Go.RowKit Go.Shelf
attribute [local go_sem] Oper.semAt_some

theorem possL_nil {n c i : Int} : ∀ m : Nat, possL n c i [] m = []
  | 0 => rfl
  | m + 1 => by rw [possL_succ, possL_nil m]; simp [possB]
theorem possL_stop {n c i : Int} {ks : List Ky} {m : Nat} (hn : 0 < n) (hm : n ≤ m) : ∀ d : Nat, possL n c i ks (m + d) = possL n c i ks m
  | 0 => rfl
  | d + 1 => by
    rw [← Nat.add_assoc, possL_succ, possL_stop hn hm d]
    have : possB n c i ks (m + d) = false := by
      unfold possB
      rw [List.any_eq_false]
      intro k _
      have := plainI_in (n := n) (k := k) (p := c) (i := i) hn
      rw [beq_iff_eq]
      omega
    rw [this]
    simp
/-- What Possible hands back, book, codes and guesses being valid. -/
theorem fits_due {b : Bk} {codes : List Int} {gs : List Gs} {a : Int} {inn : Bool} (h : askE b codes gs = 0) (hi : belowB a codes.length = inn) :
    possE b codes gs a = (possL b.n (codes.getD a.toNat 0) a (ksB inn (keysI b codes gs)) 41, if inn then (fitsE b codes gs).2 else 2) := by
  obtain ⟨hok, _, _, _, _⟩ := askE_zero h
  have hn1 := hok.n1
  have hn2 := hok.n2
  cases inn with
  | false =>
    unfold possE ksB
    rw [if_neg (by rw [h]; simp), if_pos hi]
    simp [possL_nil]
  | true =>
    have ha := belowB_iff.1 hi
    obtain ⟨i, rfl⟩ : ∃ i : Nat, a = i := ⟨a.toNat, by omega⟩
    rw [possE_of hok h (by omega), fitsE_of h]
    by_cases c : (keysI b codes gs).length = 0
    · rw [if_pos c, if_pos c, List.eq_nil_of_length_eq_zero c]
      simp [ksB, possL_nil]
    · rw [if_neg c, if_neg c]
      simp only [ksB, if_true, Int.toNat_natCast]
      have e : 41 = b.n.toNat + (41 - b.n.toNat) := by omega
      rw [e, possL_stop (by omega) (by omega)]
      rfl
/-- What Fits hands back, in short. -/
theorem fits_many {b : Bk} {codes : List Int} {gs : List Gs} (h : askE b codes gs = 0) : ∃ (N : Nat) (E : Int), (keysI b codes gs).length = N ∧ fitsE b codes gs = ((N : Int), E) ∧ ((((N : Int) == 0) = true ∧ E = 11) ∨ (((N : Int) == 0) = false ∧ E = 0)) := by
  rw [fitsE_of h]
  by_cases c : (keysI b codes gs).length = 0
  · rw [if_pos c, c]
    exact ⟨0, 11, rfl, rfl, .inl ⟨rfl, rfl⟩⟩
  · rw [if_neg c]
    exact ⟨_, 0, rfl, rfl, .inr ⟨by rw [beq_eq_false_iff_ne]; omega, rfl⟩⟩
theorem RFits_any (v1 v2 v3 v : Value) (b : Bk) (codes : List Int) (gs : List Gs) (a : Int) (inn : Bool) (w : World) (h : askE b codes gs = 0) (hc : IntsAt w v3 codes) (hg : RowsAt w v 2 Gs.cells gs) (hi : belowB a codes.length = inn) :
    Calls Try.prog 44 #[.agg #[iv b.n, iv b.w, v1, v2], v3, v, iv a] w fun e w' => ∃ u, e = .returned (.tuple #[iv ((keysI b codes gs).length : Nat), u]) ∧ IntsAt w' u (possL b.n (codes.getD a.toNat 0) a (ksB inn (keysI b codes gs)) 41) ∧ Below w.heap.size w w' := by
  obtain ⟨hok, h1, h2, h3, h4⟩ := askE_zero h
  have hn1 := hok.n1
  have hn2 := hok.n2
  obtain ⟨n, hn⟩ : ∃ n : Nat, b.n = n := ⟨b.n.toNat, by omega⟩
  have H := RFits_nat n b.w v1 v2 v3 v codes gs a inn w (by omega) (by omega) hc hg (fun x hx => by have := h4 x hx; omega) (fun x hx => by rw [← hn]; exact h3 x hx) h1 (fun m m1 m2 => by
    have := undo_ok hok.pr hn1 hn2 m1 (by omega)
    rw [hn] at this
    exact this) hi
  unfold keysI
  rw [hn, Int.toNat_natCast]
  exact H
end Go.Proofs.Ytkhfkmfofhnmdaa

namespace Go.Proofs.Ytkhfkmfofhnmdaa
open Go.RowKit Go.Shelf
attribute [local go_sem] Oper.semAt_some

set_option maxRecDepth 100000 in
set_option maxHeartbeats 4000000 in
theorem fits_law (v1 v2 : Value) (b : Bk) (v : Value) (codes : List Int) (u : Value) (gs : List Gs) (a : Int) (w0 : World) (hL : BookAny w0 v1 v2 b) (hc : RowsAny w0 v 1 ic codes) (hg : RowsAny w0 u 2 Gs.cells gs) :
    Calls Try.prog 7 #[.agg #[iv b.n, iv b.w, v1, v2], v, u, iv a] w0 fun e w' => e = .returned (.bool true) ∧ Below w0.heap.size w0 w' := by
  obtain ⟨A1, cap1, rfl, g1, g2⟩ := hL.ks.form
  obtain ⟨A2, cap2, rfl, g3, g4⟩ := hL.ds.form
  obtain ⟨A3, cap3, rfl, g5, g6⟩ := hc.form
  obtain ⟨A4, cap4, rfl, g7, g8⟩ := hg.form
  cases hT : (decide (b.ks.length ≤ 8) && decide (b.ds.length ≤ 11)) with
  | false =>
    have HT := Lib.hid hT
    clear hT hL hc hg
    go_enter Try.func7, Try.ntmps7
    go_wp2_with fail
    refine (Thin_any _ _ _ _ _ _ _ _ _ (by omega) (by omega)).mono ?_
    rintro e w1 ⟨rfl, hb⟩
    rw [HT.out]
    have HB := Lib.hid (up_later (up_alloc (up0 (w := w0)) (.cells #[iv b.n, iv b.w, .slice A1 b.ks.length cap1, .slice A2 b.ds.length cap2] 25)) hb)
    have B1 := Lib.hid ((Box.new (w := w0) (t := 25) (cs := #[iv b.n, iv b.w, .slice A1 b.ks.length cap1, .slice A2 b.ds.length cap2]) rfl).kept hb)
    clear hb
    have BB := B1.out
    have cB := fun i => BB.cell i
    have fB := fun i => BB.free i
    have lB := BB.lt
    have mB := Nat.lt_succ_of_lt lB
    go_wp2_with fail
    clear cB fB lB mB BB
    refine (awake_any _).mono ?_
    rintro e w9 ⟨rfl, hb⟩
    go_wp2_with fail
    go_ret
    exact ⟨rfl, up_later HB.out hb⟩
  | true =>
  have h8 : b.ks.length ≤ 8 ∧ b.ds.length ≤ 11 := by simpa using hT
  have HT := Lib.hid hT
  have HL := Lib.hid (hL.at h8.1 h8.2)
  clear hT hL h8
  by_cases c13 : 13 < codes.length
  · have n13 : (13 : Int) < (codes.length : Int) := by omega
    clear hc hg
    go_enter Try.func7, Try.ntmps7
    go_wp2_with fail
    refine (Thin_any _ _ _ _ _ _ _ _ _ (by omega) (by omega)).mono ?_
    rintro e w1 ⟨rfl, hb⟩
    rw [HT.out]
    have HB := Lib.hid (up_later (up_alloc (up0 (w := w0)) (.cells #[iv b.n, iv b.w, .slice A1 b.ks.length cap1, .slice A2 b.ds.length cap2] 25)) hb)
    have B1 := Lib.hid ((Box.new (w := w0) (t := 25) (cs := #[iv b.n, iv b.w, .slice A1 b.ks.length cap1, .slice A2 b.ds.length cap2]) rfl).kept hb)
    clear hb
    have BB := B1.out
    have cB := fun i => BB.cell i
    have fB := fun i => BB.free i
    have lB := BB.lt
    have mB := Nat.lt_succ_of_lt lB
    go_wp2_with fail
    clear cB fB lB mB BB
    refine (awake_any _).mono ?_
    rintro e w9 ⟨rfl, hb⟩
    go_wp2_with fail
    go_ret
    exact ⟨rfl, up_later HB.out hb⟩
  have n13 : ¬ (13 : Int) < (codes.length : Int) := by omega
  have HC := Lib.hid (hc.rows (by omega))
  by_cases c9 : 9 < gs.length
  · have n9 : (9 : Int) < (gs.length : Int) := by omega
    clear hc hg
    go_enter Try.func7, Try.ntmps7
    go_wp2_with fail
    refine (Thin_any _ _ _ _ _ _ _ _ _ (by omega) (by omega)).mono ?_
    rintro e w1 ⟨rfl, hb⟩
    rw [HT.out]
    have HB := Lib.hid (up_later (up_alloc (up0 (w := w0)) (.cells #[iv b.n, iv b.w, .slice A1 b.ks.length cap1, .slice A2 b.ds.length cap2] 25)) hb)
    have B1 := Lib.hid ((Box.new (w := w0) (t := 25) (cs := #[iv b.n, iv b.w, .slice A1 b.ks.length cap1, .slice A2 b.ds.length cap2]) rfl).kept hb)
    clear hb
    have BB := B1.out
    have cB := fun i => BB.cell i
    have fB := fun i => BB.free i
    have lB := BB.lt
    have mB := Nat.lt_succ_of_lt lB
    go_wp2_with fail
    clear cB fB lB mB BB
    refine (awake_any _).mono ?_
    rintro e w9 ⟨rfl, hb⟩
    go_wp2_with fail
    go_ret
    exact ⟨rfl, up_later HB.out hb⟩
  have n9 : ¬ (9 : Int) < (gs.length : Int) := by omega
  have HGr := Lib.hid (hg.rows (by omega))
  clear hc hg
  have hW : IntKind.i64.wrap ((codes.length : Int) - 1) = (codes.length : Int) - 1 := wrapK_in _ 1000 (by omega) (by omega)
  by_cases c1 : askE b codes gs = 0
  case neg =>
    obtain ⟨E, hE⟩ : ∃ E, askE b codes gs = E := ⟨_, rfl⟩
    obtain ⟨P, hP⟩ : ∃ P : List Int, P = [] := ⟨_, rfl⟩
    have hP1 : P.length = 0 := by rw [hP]; rfl
    have HAs := Lib.hid hE
    have HF := Lib.hid (show fitsE b codes gs = (0, E) by unfold fitsE; rw [if_pos c1, hE])
    have HPs := Lib.hid (show possE b codes gs a = (P, E) by unfold possE; rw [if_pos c1, hE, hP])
    obtain ⟨D, hD⟩ : ∃ D, bookE b = D := ⟨_, rfl⟩
    have HE := Lib.hid hD
    have e1 : (E == 0) = false := by rw [beq_eq_false_iff_ne, ← hE]; exact c1
    have e2 : (E != 0) = true := by rw [bne, e1]; rfl
    have p1 : ((P.length : Int) == 0) = true := by rw [beq_iff_eq]; omega
    clear c1 hE hP
    by_cases d0 : D = 0
    · subst d0
      by_cases d1 : 23 < b.n
      · skip
        go_enter Try.func7, Try.ntmps7
        go_wp2_with fail
        refine (Thin_any _ _ _ _ _ _ _ _ _ (by omega) (by omega)).mono ?_
        rintro e w1 ⟨rfl, hb⟩
        rw [HT.out]
        have HB := Lib.hid (up_later (up_alloc (up0 (w := w0)) (.cells #[iv b.n, iv b.w, .slice A1 b.ks.length cap1, .slice A2 b.ds.length cap2] 25)) hb)
        have B1 := Lib.hid ((Box.new (w := w0) (t := 25) (cs := #[iv b.n, iv b.w, .slice A1 b.ks.length cap1, .slice A2 b.ds.length cap2]) rfl).kept hb)
        clear hb
        have BB := B1.out
        have cB := fun i => BB.cell i
        have fB := fun i => BB.free i
        have lB := BB.lt
        have mB := Nat.lt_succ_of_lt lB
        go_wp2_with fail
        clear cB fB lB mB BB
        refine (Lfault_any _ _ b _ (HL.out.kept HB.out)).mono ?_
        rintro e w2 ⟨rfl, hb⟩
        rw [HE.out]
        have HB := Lib.hid (up_later HB.out hb)
        have B1 := Lib.hid (B1.out.kept hb)
        clear hb
        have BB := B1.out
        have cB := fun i => BB.cell i
        have fB := fun i => BB.free i
        have lB := BB.lt
        have mB := Nat.lt_succ_of_lt lB
        go_wp2_with fail
        clear cB fB lB mB BB
        refine (awake_any _).mono ?_
        rintro e w9 ⟨rfl, hb⟩
        go_wp2_with fail
        go_ret
        exact ⟨rfl, up_later HB.out hb⟩
      · skip
        go_enter Try.func7, Try.ntmps7
        go_wp2_with fail
        refine (Thin_any _ _ _ _ _ _ _ _ _ (by omega) (by omega)).mono ?_
        rintro e w1 ⟨rfl, hb⟩
        rw [HT.out]
        have HB := Lib.hid (up_later (up_alloc (up0 (w := w0)) (.cells #[iv b.n, iv b.w, .slice A1 b.ks.length cap1, .slice A2 b.ds.length cap2] 25)) hb)
        have B1 := Lib.hid ((Box.new (w := w0) (t := 25) (cs := #[iv b.n, iv b.w, .slice A1 b.ks.length cap1, .slice A2 b.ds.length cap2]) rfl).kept hb)
        clear hb
        have BB := B1.out
        have cB := fun i => BB.cell i
        have fB := fun i => BB.free i
        have lB := BB.lt
        have mB := Nat.lt_succ_of_lt lB
        go_wp2_with fail
        clear cB fB lB mB BB
        refine (Lfault_any _ _ b _ (HL.out.kept HB.out)).mono ?_
        rintro e w2 ⟨rfl, hb⟩
        rw [HE.out]
        have HB := Lib.hid (up_later HB.out hb)
        have B1 := Lib.hid (B1.out.kept hb)
        clear hb
        have BB := B1.out
        have cB := fun i => BB.cell i
        have fB := fun i => BB.free i
        have lB := BB.lt
        have mB := Nat.lt_succ_of_lt lB
        go_wp2_with fail
        clear cB fB lB mB BB
        refine (Book_any _ _ b _ (HL.out.kept HB.out)).mono ?_
        rintro e w2 ⟨a1, a2, rfl, hq, hb⟩
        have HQ := Lib.hid hq
        clear hq
        have HB := Lib.hid (up_later HB.out hb)
        have B1 := Lib.hid (B1.out.kept hb)
        clear hb
        unfold bookV
        have BB := B1.out
        have cB := fun i => BB.cell i
        have fB := fun i => BB.free i
        have lB := BB.lt
        have mB := Nat.lt_succ_of_lt lB
        go_wp2_with fail
        clear cB fB lB mB BB
        refine (list_any _ codes _ (HC.out.kept HB.out)).mono ?_
        rintro e w3 ⟨lv, rfl, hq, hb⟩
        have HP := Lib.hid hq
        clear hq
        have HB := Lib.hid (up_later HB.out hb)
        have B1 := Lib.hid (B1.out.kept hb)
        have HQ := Lib.hid (HQ.out.kept hb)
        clear hb
        have BB := B1.out
        have cB := fun i => BB.cell i
        have fB := fun i => BB.free i
        have lB := BB.lt
        have mB := Nat.lt_succ_of_lt lB
        go_wp2_with fail
        clear cB fB lB mB BB
        refine (Guesses_any _ gs _ (HGr.out.kept HB.out)).mono ?_
        rintro e w4 ⟨gv, rfl, hq, hb⟩
        have HG := Lib.hid hq
        clear hq
        have HB := Lib.hid (up_later HB.out hb)
        have B1 := Lib.hid (B1.out.kept hb)
        have HQ := Lib.hid (HQ.out.kept hb)
        have HP := Lib.hid (HP.out.kept hb)
        clear hb
        have BB := B1.out
        have cB := fun i => BB.cell i
        have fB := fun i => BB.free i
        have lB := BB.lt
        have mB := Nat.lt_succ_of_lt lB
        go_wp2_with fail
        clear cB fB lB mB BB
        refine (Fits_any _ _ _ _ b codes gs _ HQ.out HP.out HG.out).mono ?_
        rintro e w5 ⟨rfl, hb⟩
        rw [HF.out]
        clear HQ HP HG
        have HB := Lib.hid (up_later HB.out hb)
        have B1 := Lib.hid (B1.out.kept hb)
        clear hb
        have BB := B1.out
        have cB := fun i => BB.cell i
        have fB := fun i => BB.free i
        have lB := BB.lt
        have mB := Nat.lt_succ_of_lt lB
        go_wp2_with fail
        clear cB fB lB mB BB
        refine (Book_any _ _ b _ (HL.out.kept HB.out)).mono ?_
        rintro e w2 ⟨a1, a2, rfl, hq, hb⟩
        have HQ := Lib.hid hq
        clear hq
        have HB := Lib.hid (up_later HB.out hb)
        have B1 := Lib.hid (B1.out.kept hb)
        clear hb
        unfold bookV
        have BB := B1.out
        have cB := fun i => BB.cell i
        have fB := fun i => BB.free i
        have lB := BB.lt
        have mB := Nat.lt_succ_of_lt lB
        go_wp2_with fail
        clear cB fB lB mB BB
        refine (list_any _ codes _ (HC.out.kept HB.out)).mono ?_
        rintro e w3 ⟨lv, rfl, hq, hb⟩
        have HP := Lib.hid hq
        clear hq
        have HB := Lib.hid (up_later HB.out hb)
        have B1 := Lib.hid (B1.out.kept hb)
        have HQ := Lib.hid (HQ.out.kept hb)
        clear hb
        have BB := B1.out
        have cB := fun i => BB.cell i
        have fB := fun i => BB.free i
        have lB := BB.lt
        have mB := Nat.lt_succ_of_lt lB
        go_wp2_with fail
        clear cB fB lB mB BB
        refine (Guesses_any _ gs _ (HGr.out.kept HB.out)).mono ?_
        rintro e w4 ⟨gv, rfl, hq, hb⟩
        have HG := Lib.hid hq
        clear hq
        have HB := Lib.hid (up_later HB.out hb)
        have B1 := Lib.hid (B1.out.kept hb)
        have HQ := Lib.hid (HQ.out.kept hb)
        have HP := Lib.hid (HP.out.kept hb)
        clear hb
        have BB := B1.out
        have cB := fun i => BB.cell i
        have fB := fun i => BB.free i
        have lB := BB.lt
        have mB := Nat.lt_succ_of_lt lB
        go_wp2_with fail
        clear cB fB lB mB BB
        refine (Possible_any _ _ _ _ b codes gs a _ HQ.out HP.out HG.out).mono ?_
        rintro e w5 ⟨pv, rfl, ho, hb⟩
        rw [HPs.out] at ho ⊢
        obtain ⟨As, ps, rfl⟩ := own_form' ho
        have HIs := Lib.hid (show IntsAt w5 (.slice As P.length ps) P from ints_of_own ho rfl (by show P.length ≤ 1000; omega))
        clear ho HQ HP HG
        have HB := Lib.hid (up_later HB.out hb)
        have B1 := Lib.hid (B1.out.kept hb)
        clear hb
        have BB := B1.out
        have cB := fun i => BB.cell i
        have fB := fun i => BB.free i
        have lB := BB.lt
        have mB := Nat.lt_succ_of_lt lB
        go_wp2_with fail
        clear cB fB lB mB BB
        refine (asked_any _ _ _ _ b codes gs _ (HL.out.kept HB.out) (HC.out.kept HB.out) (HGr.out.kept HB.out)).mono ?_
        rintro e w3 ⟨rfl, hb⟩
        rw [HAs.out]
        have HB := Lib.hid (up_later HB.out hb)
        have B1 := Lib.hid (B1.out.kept hb)
        have HIs := Lib.hid (HIs.out.kept hb)
        clear hb
        have BB := B1.out
        have cB := fun i => BB.cell i
        have fB := fun i => BB.free i
        have lB := BB.lt
        have mB := Nat.lt_succ_of_lt lB
        go_wp2_with fail
        clear cB fB lB mB BB
        refine (awake_any _).mono ?_
        rintro e w9 ⟨rfl, hb⟩
        go_wp2_with fail
        go_ret
        exact ⟨rfl, up_later HB.out hb⟩
    · have d2 : (D == 0) = false := by rw [beq_eq_false_iff_ne]; exact d0
      clear hD
      go_enter Try.func7, Try.ntmps7
      go_wp2_with fail
      refine (Thin_any _ _ _ _ _ _ _ _ _ (by omega) (by omega)).mono ?_
      rintro e w1 ⟨rfl, hb⟩
      rw [HT.out]
      have HB := Lib.hid (up_later (up_alloc (up0 (w := w0)) (.cells #[iv b.n, iv b.w, .slice A1 b.ks.length cap1, .slice A2 b.ds.length cap2] 25)) hb)
      have B1 := Lib.hid ((Box.new (w := w0) (t := 25) (cs := #[iv b.n, iv b.w, .slice A1 b.ks.length cap1, .slice A2 b.ds.length cap2]) rfl).kept hb)
      clear hb
      have BB := B1.out
      have cB := fun i => BB.cell i
      have fB := fun i => BB.free i
      have lB := BB.lt
      have mB := Nat.lt_succ_of_lt lB
      go_wp2_with fail
      clear cB fB lB mB BB
      refine (Lfault_any _ _ b _ (HL.out.kept HB.out)).mono ?_
      rintro e w2 ⟨rfl, hb⟩
      rw [HE.out]
      have HB := Lib.hid (up_later HB.out hb)
      have B1 := Lib.hid (B1.out.kept hb)
      clear hb
      have BB := B1.out
      have cB := fun i => BB.cell i
      have fB := fun i => BB.free i
      have lB := BB.lt
      have mB := Nat.lt_succ_of_lt lB
      go_wp2_with fail
      clear cB fB lB mB BB
      refine (Book_any _ _ b _ (HL.out.kept HB.out)).mono ?_
      rintro e w2 ⟨a1, a2, rfl, hq, hb⟩
      have HQ := Lib.hid hq
      clear hq
      have HB := Lib.hid (up_later HB.out hb)
      have B1 := Lib.hid (B1.out.kept hb)
      clear hb
      unfold bookV
      have BB := B1.out
      have cB := fun i => BB.cell i
      have fB := fun i => BB.free i
      have lB := BB.lt
      have mB := Nat.lt_succ_of_lt lB
      go_wp2_with fail
      clear cB fB lB mB BB
      refine (list_any _ codes _ (HC.out.kept HB.out)).mono ?_
      rintro e w3 ⟨lv, rfl, hq, hb⟩
      have HP := Lib.hid hq
      clear hq
      have HB := Lib.hid (up_later HB.out hb)
      have B1 := Lib.hid (B1.out.kept hb)
      have HQ := Lib.hid (HQ.out.kept hb)
      clear hb
      have BB := B1.out
      have cB := fun i => BB.cell i
      have fB := fun i => BB.free i
      have lB := BB.lt
      have mB := Nat.lt_succ_of_lt lB
      go_wp2_with fail
      clear cB fB lB mB BB
      refine (Guesses_any _ gs _ (HGr.out.kept HB.out)).mono ?_
      rintro e w4 ⟨gv, rfl, hq, hb⟩
      have HG := Lib.hid hq
      clear hq
      have HB := Lib.hid (up_later HB.out hb)
      have B1 := Lib.hid (B1.out.kept hb)
      have HQ := Lib.hid (HQ.out.kept hb)
      have HP := Lib.hid (HP.out.kept hb)
      clear hb
      have BB := B1.out
      have cB := fun i => BB.cell i
      have fB := fun i => BB.free i
      have lB := BB.lt
      have mB := Nat.lt_succ_of_lt lB
      go_wp2_with fail
      clear cB fB lB mB BB
      refine (Fits_any _ _ _ _ b codes gs _ HQ.out HP.out HG.out).mono ?_
      rintro e w5 ⟨rfl, hb⟩
      rw [HF.out]
      clear HQ HP HG
      have HB := Lib.hid (up_later HB.out hb)
      have B1 := Lib.hid (B1.out.kept hb)
      clear hb
      have BB := B1.out
      have cB := fun i => BB.cell i
      have fB := fun i => BB.free i
      have lB := BB.lt
      have mB := Nat.lt_succ_of_lt lB
      go_wp2_with fail
      clear cB fB lB mB BB
      refine (Book_any _ _ b _ (HL.out.kept HB.out)).mono ?_
      rintro e w2 ⟨a1, a2, rfl, hq, hb⟩
      have HQ := Lib.hid hq
      clear hq
      have HB := Lib.hid (up_later HB.out hb)
      have B1 := Lib.hid (B1.out.kept hb)
      clear hb
      unfold bookV
      have BB := B1.out
      have cB := fun i => BB.cell i
      have fB := fun i => BB.free i
      have lB := BB.lt
      have mB := Nat.lt_succ_of_lt lB
      go_wp2_with fail
      clear cB fB lB mB BB
      refine (list_any _ codes _ (HC.out.kept HB.out)).mono ?_
      rintro e w3 ⟨lv, rfl, hq, hb⟩
      have HP := Lib.hid hq
      clear hq
      have HB := Lib.hid (up_later HB.out hb)
      have B1 := Lib.hid (B1.out.kept hb)
      have HQ := Lib.hid (HQ.out.kept hb)
      clear hb
      have BB := B1.out
      have cB := fun i => BB.cell i
      have fB := fun i => BB.free i
      have lB := BB.lt
      have mB := Nat.lt_succ_of_lt lB
      go_wp2_with fail
      clear cB fB lB mB BB
      refine (Guesses_any _ gs _ (HGr.out.kept HB.out)).mono ?_
      rintro e w4 ⟨gv, rfl, hq, hb⟩
      have HG := Lib.hid hq
      clear hq
      have HB := Lib.hid (up_later HB.out hb)
      have B1 := Lib.hid (B1.out.kept hb)
      have HQ := Lib.hid (HQ.out.kept hb)
      have HP := Lib.hid (HP.out.kept hb)
      clear hb
      have BB := B1.out
      have cB := fun i => BB.cell i
      have fB := fun i => BB.free i
      have lB := BB.lt
      have mB := Nat.lt_succ_of_lt lB
      go_wp2_with fail
      clear cB fB lB mB BB
      refine (Possible_any _ _ _ _ b codes gs a _ HQ.out HP.out HG.out).mono ?_
      rintro e w5 ⟨pv, rfl, ho, hb⟩
      rw [HPs.out] at ho ⊢
      obtain ⟨As, ps, rfl⟩ := own_form' ho
      have HIs := Lib.hid (show IntsAt w5 (.slice As P.length ps) P from ints_of_own ho rfl (by show P.length ≤ 1000; omega))
      clear ho HQ HP HG
      have HB := Lib.hid (up_later HB.out hb)
      have B1 := Lib.hid (B1.out.kept hb)
      clear hb
      have BB := B1.out
      have cB := fun i => BB.cell i
      have fB := fun i => BB.free i
      have lB := BB.lt
      have mB := Nat.lt_succ_of_lt lB
      go_wp2_with fail
      clear cB fB lB mB BB
      refine (asked_any _ _ _ _ b codes gs _ (HL.out.kept HB.out) (HC.out.kept HB.out) (HGr.out.kept HB.out)).mono ?_
      rintro e w3 ⟨rfl, hb⟩
      rw [HAs.out]
      have HB := Lib.hid (up_later HB.out hb)
      have B1 := Lib.hid (B1.out.kept hb)
      have HIs := Lib.hid (HIs.out.kept hb)
      clear hb
      have BB := B1.out
      have cB := fun i => BB.cell i
      have fB := fun i => BB.free i
      have lB := BB.lt
      have mB := Nat.lt_succ_of_lt lB
      go_wp2_with fail
      clear cB fB lB mB BB
      refine (awake_any _).mono ?_
      rintro e w9 ⟨rfl, hb⟩
      go_wp2_with fail
      go_ret
      exact ⟨rfl, up_later HB.out hb⟩
  have H0 := Lib.hid c1
  have HAs := Lib.hid c1
  obtain ⟨hok, _, _, _, _⟩ := askE_zero c1
  have HE := Lib.hid (show bookE b = 0 by
    unfold askE at c1
    split at c1
    · rename_i h1; exact absurd c1 h1
    · rename_i h1; exact Classical.not_not.1 h1)
  have hn0 := hok.n1
  have hn1 := hok.n2
  by_cases d1 : 23 < b.n
  · clear c1 hok
    go_enter Try.func7, Try.ntmps7
    go_wp2_with fail
    refine (Thin_any _ _ _ _ _ _ _ _ _ (by omega) (by omega)).mono ?_
    rintro e w1 ⟨rfl, hb⟩
    rw [HT.out]
    have HB := Lib.hid (up_later (up_alloc (up0 (w := w0)) (.cells #[iv b.n, iv b.w, .slice A1 b.ks.length cap1, .slice A2 b.ds.length cap2] 25)) hb)
    have B1 := Lib.hid ((Box.new (w := w0) (t := 25) (cs := #[iv b.n, iv b.w, .slice A1 b.ks.length cap1, .slice A2 b.ds.length cap2]) rfl).kept hb)
    clear hb
    have BB := B1.out
    have cB := fun i => BB.cell i
    have fB := fun i => BB.free i
    have lB := BB.lt
    have mB := Nat.lt_succ_of_lt lB
    go_wp2_with fail
    clear cB fB lB mB BB
    refine (Lfault_any _ _ b _ (HL.out.kept HB.out)).mono ?_
    rintro e w2 ⟨rfl, hb⟩
    rw [HE.out]
    have HB := Lib.hid (up_later HB.out hb)
    have B1 := Lib.hid (B1.out.kept hb)
    clear hb
    have BB := B1.out
    have cB := fun i => BB.cell i
    have fB := fun i => BB.free i
    have lB := BB.lt
    have mB := Nat.lt_succ_of_lt lB
    go_wp2_with fail
    clear cB fB lB mB BB
    refine (awake_any _).mono ?_
    rintro e w9 ⟨rfl, hb⟩
    go_wp2_with fail
    go_ret
    exact ⟨rfl, up_later HB.out hb⟩
  obtain ⟨N, E, hNl, hF, hcase⟩ := fits_many c1
  cases hi : belowB a codes.length with
  | false =>
    have hD := fits_due c1 hi
    obtain ⟨P, hP⟩ : ∃ P, possL b.n (codes.getD a.toNat 0) a (ksB false (keysI b codes gs)) 41 = P := ⟨_, rfl⟩
    rw [hP, hF] at hD
    have hPl : P.length ≤ 41 := by rw [← hP]; exact possL_len _ _ _ _ _
    have HD := Lib.hid hP
    have Hi := Lib.hid hi
    have HIn := Lib.hid (show inB 0 ((codes.length : Int) - 1) a = false by rw [inB_below]; exact hi)
    have HPs := Lib.hid (show possE b codes gs a = (P, 2) by simpa using hD)
    have HF := Lib.hid hF
    have HNl := Lib.hid hNl
    clear hD hP hi hF hNl c1 hok
    rcases hcase with ⟨z1, rfl⟩ | ⟨z1, rfl⟩
    · skip
      go_enter Try.func7, Try.ntmps7
      go_wp2_with fail
      refine (Thin_any _ _ _ _ _ _ _ _ _ (by omega) (by omega)).mono ?_
      rintro e w1 ⟨rfl, hb⟩
      rw [HT.out]
      have HB := Lib.hid (up_later (up_alloc (up0 (w := w0)) (.cells #[iv b.n, iv b.w, .slice A1 b.ks.length cap1, .slice A2 b.ds.length cap2] 25)) hb)
      have B1 := Lib.hid ((Box.new (w := w0) (t := 25) (cs := #[iv b.n, iv b.w, .slice A1 b.ks.length cap1, .slice A2 b.ds.length cap2]) rfl).kept hb)
      clear hb
      have BB := B1.out
      have cB := fun i => BB.cell i
      have fB := fun i => BB.free i
      have lB := BB.lt
      have mB := Nat.lt_succ_of_lt lB
      go_wp2_with fail
      clear cB fB lB mB BB
      refine (Lfault_any _ _ b _ (HL.out.kept HB.out)).mono ?_
      rintro e w2 ⟨rfl, hb⟩
      rw [HE.out]
      have HB := Lib.hid (up_later HB.out hb)
      have B1 := Lib.hid (B1.out.kept hb)
      clear hb
      have BB := B1.out
      have cB := fun i => BB.cell i
      have fB := fun i => BB.free i
      have lB := BB.lt
      have mB := Nat.lt_succ_of_lt lB
      go_wp2_with fail
      clear cB fB lB mB BB
      refine (Book_any _ _ b _ (HL.out.kept HB.out)).mono ?_
      rintro e w2 ⟨a1, a2, rfl, hq, hb⟩
      have HQ := Lib.hid hq
      clear hq
      have HB := Lib.hid (up_later HB.out hb)
      have B1 := Lib.hid (B1.out.kept hb)
      clear hb
      unfold bookV
      have BB := B1.out
      have cB := fun i => BB.cell i
      have fB := fun i => BB.free i
      have lB := BB.lt
      have mB := Nat.lt_succ_of_lt lB
      go_wp2_with fail
      clear cB fB lB mB BB
      refine (list_any _ codes _ (HC.out.kept HB.out)).mono ?_
      rintro e w3 ⟨lv, rfl, hq, hb⟩
      have HP := Lib.hid hq
      clear hq
      have HB := Lib.hid (up_later HB.out hb)
      have B1 := Lib.hid (B1.out.kept hb)
      have HQ := Lib.hid (HQ.out.kept hb)
      clear hb
      have BB := B1.out
      have cB := fun i => BB.cell i
      have fB := fun i => BB.free i
      have lB := BB.lt
      have mB := Nat.lt_succ_of_lt lB
      go_wp2_with fail
      clear cB fB lB mB BB
      refine (Guesses_any _ gs _ (HGr.out.kept HB.out)).mono ?_
      rintro e w4 ⟨gv, rfl, hq, hb⟩
      have HG := Lib.hid hq
      clear hq
      have HB := Lib.hid (up_later HB.out hb)
      have B1 := Lib.hid (B1.out.kept hb)
      have HQ := Lib.hid (HQ.out.kept hb)
      have HP := Lib.hid (HP.out.kept hb)
      clear hb
      have BB := B1.out
      have cB := fun i => BB.cell i
      have fB := fun i => BB.free i
      have lB := BB.lt
      have mB := Nat.lt_succ_of_lt lB
      go_wp2_with fail
      clear cB fB lB mB BB
      refine (Fits_any _ _ _ _ b codes gs _ HQ.out HP.out HG.out).mono ?_
      rintro e w5 ⟨rfl, hb⟩
      rw [HF.out]
      clear HQ HP HG
      have HB := Lib.hid (up_later HB.out hb)
      have B1 := Lib.hid (B1.out.kept hb)
      clear hb
      have BB := B1.out
      have cB := fun i => BB.cell i
      have fB := fun i => BB.free i
      have lB := BB.lt
      have mB := Nat.lt_succ_of_lt lB
      go_wp2_with fail
      clear cB fB lB mB BB
      refine (Book_any _ _ b _ (HL.out.kept HB.out)).mono ?_
      rintro e w2 ⟨a1, a2, rfl, hq, hb⟩
      have HQ := Lib.hid hq
      clear hq
      have HB := Lib.hid (up_later HB.out hb)
      have B1 := Lib.hid (B1.out.kept hb)
      clear hb
      unfold bookV
      have BB := B1.out
      have cB := fun i => BB.cell i
      have fB := fun i => BB.free i
      have lB := BB.lt
      have mB := Nat.lt_succ_of_lt lB
      go_wp2_with fail
      clear cB fB lB mB BB
      refine (list_any _ codes _ (HC.out.kept HB.out)).mono ?_
      rintro e w3 ⟨lv, rfl, hq, hb⟩
      have HP := Lib.hid hq
      clear hq
      have HB := Lib.hid (up_later HB.out hb)
      have B1 := Lib.hid (B1.out.kept hb)
      have HQ := Lib.hid (HQ.out.kept hb)
      clear hb
      have BB := B1.out
      have cB := fun i => BB.cell i
      have fB := fun i => BB.free i
      have lB := BB.lt
      have mB := Nat.lt_succ_of_lt lB
      go_wp2_with fail
      clear cB fB lB mB BB
      refine (Guesses_any _ gs _ (HGr.out.kept HB.out)).mono ?_
      rintro e w4 ⟨gv, rfl, hq, hb⟩
      have HG := Lib.hid hq
      clear hq
      have HB := Lib.hid (up_later HB.out hb)
      have B1 := Lib.hid (B1.out.kept hb)
      have HQ := Lib.hid (HQ.out.kept hb)
      have HP := Lib.hid (HP.out.kept hb)
      clear hb
      have BB := B1.out
      have cB := fun i => BB.cell i
      have fB := fun i => BB.free i
      have lB := BB.lt
      have mB := Nat.lt_succ_of_lt lB
      go_wp2_with fail
      clear cB fB lB mB BB
      refine (Possible_any _ _ _ _ b codes gs a _ HQ.out HP.out HG.out).mono ?_
      rintro e w5 ⟨pv, rfl, ho, hb⟩
      rw [HPs.out] at ho ⊢
      obtain ⟨As, ps, rfl⟩ := own_form' ho
      have HIs := Lib.hid (show IntsAt w5 (.slice As P.length ps) P from ints_of_own ho rfl (by show P.length ≤ 1000; omega))
      clear ho HQ HP HG
      have HB := Lib.hid (up_later HB.out hb)
      have B1 := Lib.hid (B1.out.kept hb)
      clear hb
      have BB := B1.out
      have cB := fun i => BB.cell i
      have fB := fun i => BB.free i
      have lB := BB.lt
      have mB := Nat.lt_succ_of_lt lB
      go_wp2_with fail
      clear cB fB lB mB BB
      refine (asked_any _ _ _ _ b codes gs _ (HL.out.kept HB.out) (HC.out.kept HB.out) (HGr.out.kept HB.out)).mono ?_
      rintro e w3 ⟨rfl, hb⟩
      rw [HAs.out]
      have HB := Lib.hid (up_later HB.out hb)
      have B1 := Lib.hid (B1.out.kept hb)
      have HIs := Lib.hid (HIs.out.kept hb)
      clear hb
      have BB := B1.out
      have cB := fun i => BB.cell i
      have fB := fun i => BB.free i
      have lB := BB.lt
      have mB := Nat.lt_succ_of_lt lB
      go_wp2_with fail
      clear cB fB lB mB BB
      refine (RFits_any _ _ _ _ b codes gs a false _ H0.out (HC.out.kept HB.out) (HGr.out.kept HB.out) Hi.out).mono ?_
      rintro e w6 ⟨u, rfl, hq, hb⟩
      rw [HNl.out]
      rw [HD.out] at hq
      obtain ⟨_, Au, cu, rfl, _, _⟩ := hq.form
      have HU := Lib.hid hq
      clear hq
      have HB := Lib.hid (up_later HB.out hb)
      have B1 := Lib.hid (B1.out.kept hb)
      have HIs := Lib.hid (HIs.out.kept hb)
      clear hb
      have BB := B1.out
      have cB := fun i => BB.cell i
      have fB := fun i => BB.free i
      have lB := BB.lt
      have mB := Nat.lt_succ_of_lt lB
      go_wp2_with fail
      clear cB fB lB mB BB
      refine (In_b a 0 ((codes.length : Int) - 1) false _ HIn.out).mono ?_
      rintro e w6 ⟨rfl, hb⟩
      have HB := Lib.hid (up_later HB.out hb)
      have B1 := Lib.hid (B1.out.kept hb)
      have HIs := Lib.hid (HIs.out.kept hb)
      have HU := Lib.hid (HU.out.kept hb)
      clear hb
      have BB := B1.out
      have cB := fun i => BB.cell i
      have fB := fun i => BB.free i
      have lB := BB.lt
      have mB := Nat.lt_succ_of_lt lB
      go_wp2_with fail
      clear cB fB lB mB BB
      refine (same_any _ _ P P _ HIs.out HU.out).mono ?_
      rintro e w7 ⟨rfl, hb⟩
      rw [decide_eq_true (p := P = P) rfl]
      have HB := Lib.hid (up_later HB.out hb)
      have B1 := Lib.hid (B1.out.kept hb)
      clear hb
      have BB := B1.out
      have cB := fun i => BB.cell i
      have fB := fun i => BB.free i
      have lB := BB.lt
      have mB := Nat.lt_succ_of_lt lB
      go_wp2_with fail
      clear cB fB lB mB BB
      refine (awake_any _).mono ?_
      rintro e w9 ⟨rfl, hb⟩
      go_wp2_with fail
      go_ret
      exact ⟨rfl, up_later HB.out hb⟩
    · skip
      go_enter Try.func7, Try.ntmps7
      go_wp2_with fail
      refine (Thin_any _ _ _ _ _ _ _ _ _ (by omega) (by omega)).mono ?_
      rintro e w1 ⟨rfl, hb⟩
      rw [HT.out]
      have HB := Lib.hid (up_later (up_alloc (up0 (w := w0)) (.cells #[iv b.n, iv b.w, .slice A1 b.ks.length cap1, .slice A2 b.ds.length cap2] 25)) hb)
      have B1 := Lib.hid ((Box.new (w := w0) (t := 25) (cs := #[iv b.n, iv b.w, .slice A1 b.ks.length cap1, .slice A2 b.ds.length cap2]) rfl).kept hb)
      clear hb
      have BB := B1.out
      have cB := fun i => BB.cell i
      have fB := fun i => BB.free i
      have lB := BB.lt
      have mB := Nat.lt_succ_of_lt lB
      go_wp2_with fail
      clear cB fB lB mB BB
      refine (Lfault_any _ _ b _ (HL.out.kept HB.out)).mono ?_
      rintro e w2 ⟨rfl, hb⟩
      rw [HE.out]
      have HB := Lib.hid (up_later HB.out hb)
      have B1 := Lib.hid (B1.out.kept hb)
      clear hb
      have BB := B1.out
      have cB := fun i => BB.cell i
      have fB := fun i => BB.free i
      have lB := BB.lt
      have mB := Nat.lt_succ_of_lt lB
      go_wp2_with fail
      clear cB fB lB mB BB
      refine (Book_any _ _ b _ (HL.out.kept HB.out)).mono ?_
      rintro e w2 ⟨a1, a2, rfl, hq, hb⟩
      have HQ := Lib.hid hq
      clear hq
      have HB := Lib.hid (up_later HB.out hb)
      have B1 := Lib.hid (B1.out.kept hb)
      clear hb
      unfold bookV
      have BB := B1.out
      have cB := fun i => BB.cell i
      have fB := fun i => BB.free i
      have lB := BB.lt
      have mB := Nat.lt_succ_of_lt lB
      go_wp2_with fail
      clear cB fB lB mB BB
      refine (list_any _ codes _ (HC.out.kept HB.out)).mono ?_
      rintro e w3 ⟨lv, rfl, hq, hb⟩
      have HP := Lib.hid hq
      clear hq
      have HB := Lib.hid (up_later HB.out hb)
      have B1 := Lib.hid (B1.out.kept hb)
      have HQ := Lib.hid (HQ.out.kept hb)
      clear hb
      have BB := B1.out
      have cB := fun i => BB.cell i
      have fB := fun i => BB.free i
      have lB := BB.lt
      have mB := Nat.lt_succ_of_lt lB
      go_wp2_with fail
      clear cB fB lB mB BB
      refine (Guesses_any _ gs _ (HGr.out.kept HB.out)).mono ?_
      rintro e w4 ⟨gv, rfl, hq, hb⟩
      have HG := Lib.hid hq
      clear hq
      have HB := Lib.hid (up_later HB.out hb)
      have B1 := Lib.hid (B1.out.kept hb)
      have HQ := Lib.hid (HQ.out.kept hb)
      have HP := Lib.hid (HP.out.kept hb)
      clear hb
      have BB := B1.out
      have cB := fun i => BB.cell i
      have fB := fun i => BB.free i
      have lB := BB.lt
      have mB := Nat.lt_succ_of_lt lB
      go_wp2_with fail
      clear cB fB lB mB BB
      refine (Fits_any _ _ _ _ b codes gs _ HQ.out HP.out HG.out).mono ?_
      rintro e w5 ⟨rfl, hb⟩
      rw [HF.out]
      clear HQ HP HG
      have HB := Lib.hid (up_later HB.out hb)
      have B1 := Lib.hid (B1.out.kept hb)
      clear hb
      have BB := B1.out
      have cB := fun i => BB.cell i
      have fB := fun i => BB.free i
      have lB := BB.lt
      have mB := Nat.lt_succ_of_lt lB
      go_wp2_with fail
      clear cB fB lB mB BB
      refine (Book_any _ _ b _ (HL.out.kept HB.out)).mono ?_
      rintro e w2 ⟨a1, a2, rfl, hq, hb⟩
      have HQ := Lib.hid hq
      clear hq
      have HB := Lib.hid (up_later HB.out hb)
      have B1 := Lib.hid (B1.out.kept hb)
      clear hb
      unfold bookV
      have BB := B1.out
      have cB := fun i => BB.cell i
      have fB := fun i => BB.free i
      have lB := BB.lt
      have mB := Nat.lt_succ_of_lt lB
      go_wp2_with fail
      clear cB fB lB mB BB
      refine (list_any _ codes _ (HC.out.kept HB.out)).mono ?_
      rintro e w3 ⟨lv, rfl, hq, hb⟩
      have HP := Lib.hid hq
      clear hq
      have HB := Lib.hid (up_later HB.out hb)
      have B1 := Lib.hid (B1.out.kept hb)
      have HQ := Lib.hid (HQ.out.kept hb)
      clear hb
      have BB := B1.out
      have cB := fun i => BB.cell i
      have fB := fun i => BB.free i
      have lB := BB.lt
      have mB := Nat.lt_succ_of_lt lB
      go_wp2_with fail
      clear cB fB lB mB BB
      refine (Guesses_any _ gs _ (HGr.out.kept HB.out)).mono ?_
      rintro e w4 ⟨gv, rfl, hq, hb⟩
      have HG := Lib.hid hq
      clear hq
      have HB := Lib.hid (up_later HB.out hb)
      have B1 := Lib.hid (B1.out.kept hb)
      have HQ := Lib.hid (HQ.out.kept hb)
      have HP := Lib.hid (HP.out.kept hb)
      clear hb
      have BB := B1.out
      have cB := fun i => BB.cell i
      have fB := fun i => BB.free i
      have lB := BB.lt
      have mB := Nat.lt_succ_of_lt lB
      go_wp2_with fail
      clear cB fB lB mB BB
      refine (Possible_any _ _ _ _ b codes gs a _ HQ.out HP.out HG.out).mono ?_
      rintro e w5 ⟨pv, rfl, ho, hb⟩
      rw [HPs.out] at ho ⊢
      obtain ⟨As, ps, rfl⟩ := own_form' ho
      have HIs := Lib.hid (show IntsAt w5 (.slice As P.length ps) P from ints_of_own ho rfl (by show P.length ≤ 1000; omega))
      clear ho HQ HP HG
      have HB := Lib.hid (up_later HB.out hb)
      have B1 := Lib.hid (B1.out.kept hb)
      clear hb
      have BB := B1.out
      have cB := fun i => BB.cell i
      have fB := fun i => BB.free i
      have lB := BB.lt
      have mB := Nat.lt_succ_of_lt lB
      go_wp2_with fail
      clear cB fB lB mB BB
      refine (asked_any _ _ _ _ b codes gs _ (HL.out.kept HB.out) (HC.out.kept HB.out) (HGr.out.kept HB.out)).mono ?_
      rintro e w3 ⟨rfl, hb⟩
      rw [HAs.out]
      have HB := Lib.hid (up_later HB.out hb)
      have B1 := Lib.hid (B1.out.kept hb)
      have HIs := Lib.hid (HIs.out.kept hb)
      clear hb
      have BB := B1.out
      have cB := fun i => BB.cell i
      have fB := fun i => BB.free i
      have lB := BB.lt
      have mB := Nat.lt_succ_of_lt lB
      go_wp2_with fail
      clear cB fB lB mB BB
      refine (RFits_any _ _ _ _ b codes gs a false _ H0.out (HC.out.kept HB.out) (HGr.out.kept HB.out) Hi.out).mono ?_
      rintro e w6 ⟨u, rfl, hq, hb⟩
      rw [HNl.out]
      rw [HD.out] at hq
      obtain ⟨_, Au, cu, rfl, _, _⟩ := hq.form
      have HU := Lib.hid hq
      clear hq
      have HB := Lib.hid (up_later HB.out hb)
      have B1 := Lib.hid (B1.out.kept hb)
      have HIs := Lib.hid (HIs.out.kept hb)
      clear hb
      have BB := B1.out
      have cB := fun i => BB.cell i
      have fB := fun i => BB.free i
      have lB := BB.lt
      have mB := Nat.lt_succ_of_lt lB
      go_wp2_with fail
      clear cB fB lB mB BB
      refine (In_b a 0 ((codes.length : Int) - 1) false _ HIn.out).mono ?_
      rintro e w6 ⟨rfl, hb⟩
      have HB := Lib.hid (up_later HB.out hb)
      have B1 := Lib.hid (B1.out.kept hb)
      have HIs := Lib.hid (HIs.out.kept hb)
      have HU := Lib.hid (HU.out.kept hb)
      clear hb
      have BB := B1.out
      have cB := fun i => BB.cell i
      have fB := fun i => BB.free i
      have lB := BB.lt
      have mB := Nat.lt_succ_of_lt lB
      go_wp2_with fail
      clear cB fB lB mB BB
      refine (same_any _ _ P P _ HIs.out HU.out).mono ?_
      rintro e w7 ⟨rfl, hb⟩
      rw [decide_eq_true (p := P = P) rfl]
      have HB := Lib.hid (up_later HB.out hb)
      have B1 := Lib.hid (B1.out.kept hb)
      clear hb
      have BB := B1.out
      have cB := fun i => BB.cell i
      have fB := fun i => BB.free i
      have lB := BB.lt
      have mB := Nat.lt_succ_of_lt lB
      go_wp2_with fail
      clear cB fB lB mB BB
      refine (awake_any _).mono ?_
      rintro e w9 ⟨rfl, hb⟩
      go_wp2_with fail
      go_ret
      exact ⟨rfl, up_later HB.out hb⟩
  | true =>
    have hD := fits_due c1 hi
    obtain ⟨P, hP⟩ : ∃ P, possL b.n (codes.getD a.toNat 0) a (ksB true (keysI b codes gs)) 41 = P := ⟨_, rfl⟩
    rw [hP, hF] at hD
    have hPl : P.length ≤ 41 := by rw [← hP]; exact possL_len _ _ _ _ _
    have HD := Lib.hid hP
    have Hi := Lib.hid hi
    have HIn := Lib.hid (show inB 0 ((codes.length : Int) - 1) a = true by rw [inB_below]; exact hi)
    have HPs := Lib.hid (show possE b codes gs a = (P, E) by simpa using hD)
    have HF := Lib.hid hF
    have HNl := Lib.hid hNl
    clear hD hP hi hF hNl c1 hok
    rcases hcase with ⟨z1, rfl⟩ | ⟨z1, rfl⟩
    · skip
      go_enter Try.func7, Try.ntmps7
      go_wp2_with fail
      refine (Thin_any _ _ _ _ _ _ _ _ _ (by omega) (by omega)).mono ?_
      rintro e w1 ⟨rfl, hb⟩
      rw [HT.out]
      have HB := Lib.hid (up_later (up_alloc (up0 (w := w0)) (.cells #[iv b.n, iv b.w, .slice A1 b.ks.length cap1, .slice A2 b.ds.length cap2] 25)) hb)
      have B1 := Lib.hid ((Box.new (w := w0) (t := 25) (cs := #[iv b.n, iv b.w, .slice A1 b.ks.length cap1, .slice A2 b.ds.length cap2]) rfl).kept hb)
      clear hb
      have BB := B1.out
      have cB := fun i => BB.cell i
      have fB := fun i => BB.free i
      have lB := BB.lt
      have mB := Nat.lt_succ_of_lt lB
      go_wp2_with fail
      clear cB fB lB mB BB
      refine (Lfault_any _ _ b _ (HL.out.kept HB.out)).mono ?_
      rintro e w2 ⟨rfl, hb⟩
      rw [HE.out]
      have HB := Lib.hid (up_later HB.out hb)
      have B1 := Lib.hid (B1.out.kept hb)
      clear hb
      have BB := B1.out
      have cB := fun i => BB.cell i
      have fB := fun i => BB.free i
      have lB := BB.lt
      have mB := Nat.lt_succ_of_lt lB
      go_wp2_with fail
      clear cB fB lB mB BB
      refine (Book_any _ _ b _ (HL.out.kept HB.out)).mono ?_
      rintro e w2 ⟨a1, a2, rfl, hq, hb⟩
      have HQ := Lib.hid hq
      clear hq
      have HB := Lib.hid (up_later HB.out hb)
      have B1 := Lib.hid (B1.out.kept hb)
      clear hb
      unfold bookV
      have BB := B1.out
      have cB := fun i => BB.cell i
      have fB := fun i => BB.free i
      have lB := BB.lt
      have mB := Nat.lt_succ_of_lt lB
      go_wp2_with fail
      clear cB fB lB mB BB
      refine (list_any _ codes _ (HC.out.kept HB.out)).mono ?_
      rintro e w3 ⟨lv, rfl, hq, hb⟩
      have HP := Lib.hid hq
      clear hq
      have HB := Lib.hid (up_later HB.out hb)
      have B1 := Lib.hid (B1.out.kept hb)
      have HQ := Lib.hid (HQ.out.kept hb)
      clear hb
      have BB := B1.out
      have cB := fun i => BB.cell i
      have fB := fun i => BB.free i
      have lB := BB.lt
      have mB := Nat.lt_succ_of_lt lB
      go_wp2_with fail
      clear cB fB lB mB BB
      refine (Guesses_any _ gs _ (HGr.out.kept HB.out)).mono ?_
      rintro e w4 ⟨gv, rfl, hq, hb⟩
      have HG := Lib.hid hq
      clear hq
      have HB := Lib.hid (up_later HB.out hb)
      have B1 := Lib.hid (B1.out.kept hb)
      have HQ := Lib.hid (HQ.out.kept hb)
      have HP := Lib.hid (HP.out.kept hb)
      clear hb
      have BB := B1.out
      have cB := fun i => BB.cell i
      have fB := fun i => BB.free i
      have lB := BB.lt
      have mB := Nat.lt_succ_of_lt lB
      go_wp2_with fail
      clear cB fB lB mB BB
      refine (Fits_any _ _ _ _ b codes gs _ HQ.out HP.out HG.out).mono ?_
      rintro e w5 ⟨rfl, hb⟩
      rw [HF.out]
      clear HQ HP HG
      have HB := Lib.hid (up_later HB.out hb)
      have B1 := Lib.hid (B1.out.kept hb)
      clear hb
      have BB := B1.out
      have cB := fun i => BB.cell i
      have fB := fun i => BB.free i
      have lB := BB.lt
      have mB := Nat.lt_succ_of_lt lB
      go_wp2_with fail
      clear cB fB lB mB BB
      refine (Book_any _ _ b _ (HL.out.kept HB.out)).mono ?_
      rintro e w2 ⟨a1, a2, rfl, hq, hb⟩
      have HQ := Lib.hid hq
      clear hq
      have HB := Lib.hid (up_later HB.out hb)
      have B1 := Lib.hid (B1.out.kept hb)
      clear hb
      unfold bookV
      have BB := B1.out
      have cB := fun i => BB.cell i
      have fB := fun i => BB.free i
      have lB := BB.lt
      have mB := Nat.lt_succ_of_lt lB
      go_wp2_with fail
      clear cB fB lB mB BB
      refine (list_any _ codes _ (HC.out.kept HB.out)).mono ?_
      rintro e w3 ⟨lv, rfl, hq, hb⟩
      have HP := Lib.hid hq
      clear hq
      have HB := Lib.hid (up_later HB.out hb)
      have B1 := Lib.hid (B1.out.kept hb)
      have HQ := Lib.hid (HQ.out.kept hb)
      clear hb
      have BB := B1.out
      have cB := fun i => BB.cell i
      have fB := fun i => BB.free i
      have lB := BB.lt
      have mB := Nat.lt_succ_of_lt lB
      go_wp2_with fail
      clear cB fB lB mB BB
      refine (Guesses_any _ gs _ (HGr.out.kept HB.out)).mono ?_
      rintro e w4 ⟨gv, rfl, hq, hb⟩
      have HG := Lib.hid hq
      clear hq
      have HB := Lib.hid (up_later HB.out hb)
      have B1 := Lib.hid (B1.out.kept hb)
      have HQ := Lib.hid (HQ.out.kept hb)
      have HP := Lib.hid (HP.out.kept hb)
      clear hb
      have BB := B1.out
      have cB := fun i => BB.cell i
      have fB := fun i => BB.free i
      have lB := BB.lt
      have mB := Nat.lt_succ_of_lt lB
      go_wp2_with fail
      clear cB fB lB mB BB
      refine (Possible_any _ _ _ _ b codes gs a _ HQ.out HP.out HG.out).mono ?_
      rintro e w5 ⟨pv, rfl, ho, hb⟩
      rw [HPs.out] at ho ⊢
      obtain ⟨As, ps, rfl⟩ := own_form' ho
      have HIs := Lib.hid (show IntsAt w5 (.slice As P.length ps) P from ints_of_own ho rfl (by show P.length ≤ 1000; omega))
      clear ho HQ HP HG
      have HB := Lib.hid (up_later HB.out hb)
      have B1 := Lib.hid (B1.out.kept hb)
      clear hb
      have BB := B1.out
      have cB := fun i => BB.cell i
      have fB := fun i => BB.free i
      have lB := BB.lt
      have mB := Nat.lt_succ_of_lt lB
      go_wp2_with fail
      clear cB fB lB mB BB
      refine (asked_any _ _ _ _ b codes gs _ (HL.out.kept HB.out) (HC.out.kept HB.out) (HGr.out.kept HB.out)).mono ?_
      rintro e w3 ⟨rfl, hb⟩
      rw [HAs.out]
      have HB := Lib.hid (up_later HB.out hb)
      have B1 := Lib.hid (B1.out.kept hb)
      have HIs := Lib.hid (HIs.out.kept hb)
      clear hb
      have BB := B1.out
      have cB := fun i => BB.cell i
      have fB := fun i => BB.free i
      have lB := BB.lt
      have mB := Nat.lt_succ_of_lt lB
      go_wp2_with fail
      clear cB fB lB mB BB
      refine (RFits_any _ _ _ _ b codes gs a true _ H0.out (HC.out.kept HB.out) (HGr.out.kept HB.out) Hi.out).mono ?_
      rintro e w6 ⟨u, rfl, hq, hb⟩
      rw [HNl.out]
      rw [HD.out] at hq
      obtain ⟨_, Au, cu, rfl, _, _⟩ := hq.form
      have HU := Lib.hid hq
      clear hq
      have HB := Lib.hid (up_later HB.out hb)
      have B1 := Lib.hid (B1.out.kept hb)
      have HIs := Lib.hid (HIs.out.kept hb)
      clear hb
      have BB := B1.out
      have cB := fun i => BB.cell i
      have fB := fun i => BB.free i
      have lB := BB.lt
      have mB := Nat.lt_succ_of_lt lB
      go_wp2_with fail
      clear cB fB lB mB BB
      refine (In_b a 0 ((codes.length : Int) - 1) true _ HIn.out).mono ?_
      rintro e w6 ⟨rfl, hb⟩
      have HB := Lib.hid (up_later HB.out hb)
      have B1 := Lib.hid (B1.out.kept hb)
      have HIs := Lib.hid (HIs.out.kept hb)
      have HU := Lib.hid (HU.out.kept hb)
      clear hb
      have BB := B1.out
      have cB := fun i => BB.cell i
      have fB := fun i => BB.free i
      have lB := BB.lt
      have mB := Nat.lt_succ_of_lt lB
      go_wp2_with fail
      clear cB fB lB mB BB
      refine (same_any _ _ P P _ HIs.out HU.out).mono ?_
      rintro e w7 ⟨rfl, hb⟩
      rw [decide_eq_true (p := P = P) rfl]
      have HB := Lib.hid (up_later HB.out hb)
      have B1 := Lib.hid (B1.out.kept hb)
      clear hb
      have BB := B1.out
      have cB := fun i => BB.cell i
      have fB := fun i => BB.free i
      have lB := BB.lt
      have mB := Nat.lt_succ_of_lt lB
      go_wp2_with fail
      clear cB fB lB mB BB
      refine (awake_any _).mono ?_
      rintro e w9 ⟨rfl, hb⟩
      go_wp2_with fail
      go_ret
      exact ⟨rfl, up_later HB.out hb⟩
    · skip
      go_enter Try.func7, Try.ntmps7
      go_wp2_with fail
      refine (Thin_any _ _ _ _ _ _ _ _ _ (by omega) (by omega)).mono ?_
      rintro e w1 ⟨rfl, hb⟩
      rw [HT.out]
      have HB := Lib.hid (up_later (up_alloc (up0 (w := w0)) (.cells #[iv b.n, iv b.w, .slice A1 b.ks.length cap1, .slice A2 b.ds.length cap2] 25)) hb)
      have B1 := Lib.hid ((Box.new (w := w0) (t := 25) (cs := #[iv b.n, iv b.w, .slice A1 b.ks.length cap1, .slice A2 b.ds.length cap2]) rfl).kept hb)
      clear hb
      have BB := B1.out
      have cB := fun i => BB.cell i
      have fB := fun i => BB.free i
      have lB := BB.lt
      have mB := Nat.lt_succ_of_lt lB
      go_wp2_with fail
      clear cB fB lB mB BB
      refine (Lfault_any _ _ b _ (HL.out.kept HB.out)).mono ?_
      rintro e w2 ⟨rfl, hb⟩
      rw [HE.out]
      have HB := Lib.hid (up_later HB.out hb)
      have B1 := Lib.hid (B1.out.kept hb)
      clear hb
      have BB := B1.out
      have cB := fun i => BB.cell i
      have fB := fun i => BB.free i
      have lB := BB.lt
      have mB := Nat.lt_succ_of_lt lB
      go_wp2_with fail
      clear cB fB lB mB BB
      refine (Book_any _ _ b _ (HL.out.kept HB.out)).mono ?_
      rintro e w2 ⟨a1, a2, rfl, hq, hb⟩
      have HQ := Lib.hid hq
      clear hq
      have HB := Lib.hid (up_later HB.out hb)
      have B1 := Lib.hid (B1.out.kept hb)
      clear hb
      unfold bookV
      have BB := B1.out
      have cB := fun i => BB.cell i
      have fB := fun i => BB.free i
      have lB := BB.lt
      have mB := Nat.lt_succ_of_lt lB
      go_wp2_with fail
      clear cB fB lB mB BB
      refine (list_any _ codes _ (HC.out.kept HB.out)).mono ?_
      rintro e w3 ⟨lv, rfl, hq, hb⟩
      have HP := Lib.hid hq
      clear hq
      have HB := Lib.hid (up_later HB.out hb)
      have B1 := Lib.hid (B1.out.kept hb)
      have HQ := Lib.hid (HQ.out.kept hb)
      clear hb
      have BB := B1.out
      have cB := fun i => BB.cell i
      have fB := fun i => BB.free i
      have lB := BB.lt
      have mB := Nat.lt_succ_of_lt lB
      go_wp2_with fail
      clear cB fB lB mB BB
      refine (Guesses_any _ gs _ (HGr.out.kept HB.out)).mono ?_
      rintro e w4 ⟨gv, rfl, hq, hb⟩
      have HG := Lib.hid hq
      clear hq
      have HB := Lib.hid (up_later HB.out hb)
      have B1 := Lib.hid (B1.out.kept hb)
      have HQ := Lib.hid (HQ.out.kept hb)
      have HP := Lib.hid (HP.out.kept hb)
      clear hb
      have BB := B1.out
      have cB := fun i => BB.cell i
      have fB := fun i => BB.free i
      have lB := BB.lt
      have mB := Nat.lt_succ_of_lt lB
      go_wp2_with fail
      clear cB fB lB mB BB
      refine (Fits_any _ _ _ _ b codes gs _ HQ.out HP.out HG.out).mono ?_
      rintro e w5 ⟨rfl, hb⟩
      rw [HF.out]
      clear HQ HP HG
      have HB := Lib.hid (up_later HB.out hb)
      have B1 := Lib.hid (B1.out.kept hb)
      clear hb
      have BB := B1.out
      have cB := fun i => BB.cell i
      have fB := fun i => BB.free i
      have lB := BB.lt
      have mB := Nat.lt_succ_of_lt lB
      go_wp2_with fail
      clear cB fB lB mB BB
      refine (Book_any _ _ b _ (HL.out.kept HB.out)).mono ?_
      rintro e w2 ⟨a1, a2, rfl, hq, hb⟩
      have HQ := Lib.hid hq
      clear hq
      have HB := Lib.hid (up_later HB.out hb)
      have B1 := Lib.hid (B1.out.kept hb)
      clear hb
      unfold bookV
      have BB := B1.out
      have cB := fun i => BB.cell i
      have fB := fun i => BB.free i
      have lB := BB.lt
      have mB := Nat.lt_succ_of_lt lB
      go_wp2_with fail
      clear cB fB lB mB BB
      refine (list_any _ codes _ (HC.out.kept HB.out)).mono ?_
      rintro e w3 ⟨lv, rfl, hq, hb⟩
      have HP := Lib.hid hq
      clear hq
      have HB := Lib.hid (up_later HB.out hb)
      have B1 := Lib.hid (B1.out.kept hb)
      have HQ := Lib.hid (HQ.out.kept hb)
      clear hb
      have BB := B1.out
      have cB := fun i => BB.cell i
      have fB := fun i => BB.free i
      have lB := BB.lt
      have mB := Nat.lt_succ_of_lt lB
      go_wp2_with fail
      clear cB fB lB mB BB
      refine (Guesses_any _ gs _ (HGr.out.kept HB.out)).mono ?_
      rintro e w4 ⟨gv, rfl, hq, hb⟩
      have HG := Lib.hid hq
      clear hq
      have HB := Lib.hid (up_later HB.out hb)
      have B1 := Lib.hid (B1.out.kept hb)
      have HQ := Lib.hid (HQ.out.kept hb)
      have HP := Lib.hid (HP.out.kept hb)
      clear hb
      have BB := B1.out
      have cB := fun i => BB.cell i
      have fB := fun i => BB.free i
      have lB := BB.lt
      have mB := Nat.lt_succ_of_lt lB
      go_wp2_with fail
      clear cB fB lB mB BB
      refine (Possible_any _ _ _ _ b codes gs a _ HQ.out HP.out HG.out).mono ?_
      rintro e w5 ⟨pv, rfl, ho, hb⟩
      rw [HPs.out] at ho ⊢
      obtain ⟨As, ps, rfl⟩ := own_form' ho
      have HIs := Lib.hid (show IntsAt w5 (.slice As P.length ps) P from ints_of_own ho rfl (by show P.length ≤ 1000; omega))
      clear ho HQ HP HG
      have HB := Lib.hid (up_later HB.out hb)
      have B1 := Lib.hid (B1.out.kept hb)
      clear hb
      have BB := B1.out
      have cB := fun i => BB.cell i
      have fB := fun i => BB.free i
      have lB := BB.lt
      have mB := Nat.lt_succ_of_lt lB
      go_wp2_with fail
      clear cB fB lB mB BB
      refine (asked_any _ _ _ _ b codes gs _ (HL.out.kept HB.out) (HC.out.kept HB.out) (HGr.out.kept HB.out)).mono ?_
      rintro e w3 ⟨rfl, hb⟩
      rw [HAs.out]
      have HB := Lib.hid (up_later HB.out hb)
      have B1 := Lib.hid (B1.out.kept hb)
      have HIs := Lib.hid (HIs.out.kept hb)
      clear hb
      have BB := B1.out
      have cB := fun i => BB.cell i
      have fB := fun i => BB.free i
      have lB := BB.lt
      have mB := Nat.lt_succ_of_lt lB
      go_wp2_with fail
      clear cB fB lB mB BB
      refine (RFits_any _ _ _ _ b codes gs a true _ H0.out (HC.out.kept HB.out) (HGr.out.kept HB.out) Hi.out).mono ?_
      rintro e w6 ⟨u, rfl, hq, hb⟩
      rw [HNl.out]
      rw [HD.out] at hq
      obtain ⟨_, Au, cu, rfl, _, _⟩ := hq.form
      have HU := Lib.hid hq
      clear hq
      have HB := Lib.hid (up_later HB.out hb)
      have B1 := Lib.hid (B1.out.kept hb)
      have HIs := Lib.hid (HIs.out.kept hb)
      clear hb
      have BB := B1.out
      have cB := fun i => BB.cell i
      have fB := fun i => BB.free i
      have lB := BB.lt
      have mB := Nat.lt_succ_of_lt lB
      go_wp2_with fail
      clear cB fB lB mB BB
      refine (In_b a 0 ((codes.length : Int) - 1) true _ HIn.out).mono ?_
      rintro e w6 ⟨rfl, hb⟩
      have HB := Lib.hid (up_later HB.out hb)
      have B1 := Lib.hid (B1.out.kept hb)
      have HIs := Lib.hid (HIs.out.kept hb)
      have HU := Lib.hid (HU.out.kept hb)
      clear hb
      have BB := B1.out
      have cB := fun i => BB.cell i
      have fB := fun i => BB.free i
      have lB := BB.lt
      have mB := Nat.lt_succ_of_lt lB
      go_wp2_with fail
      clear cB fB lB mB BB
      refine (same_any _ _ P P _ HIs.out HU.out).mono ?_
      rintro e w7 ⟨rfl, hb⟩
      rw [decide_eq_true (p := P = P) rfl]
      have HB := Lib.hid (up_later HB.out hb)
      have B1 := Lib.hid (B1.out.kept hb)
      clear hb
      have BB := B1.out
      have cB := fun i => BB.cell i
      have fB := fun i => BB.free i
      have lB := BB.lt
      have mB := Nat.lt_succ_of_lt lB
      go_wp2_with fail
      clear cB fB lB mB BB
      refine (awake_any _).mono ?_
      rintro e w9 ⟨rfl, hb⟩
      go_wp2_with fail
      go_ret
      exact ⟨rfl, up_later HB.out hb⟩
end Go.Proofs.Ytkhfkmfofhnmdaa

namespace Go.Proofs.Ytkhfkmfofhnmdaa
open Go.ChangeShapes Go.WideShapes Go.ChangeAt Go.RowKit

set_option maxRecDepth 100000 in
theorem cipherFits_lifted (os : Os) (started : os.Started) (H : Type) (enc : TypeId × Value → H) :
    ReturnsInHanded {} Try.checked os 7 .any (Rows.cipherFitsSpec.pre6 enc Try.prog Try.f7 Rows.cipherFitsRow.domain false) (Rows.cipherFitsSpec.post enc Try.prog Try.f7 false true false false) := by
  refine returnsInHanded_of_change (C := Try.checked) own_knob started (by kernel_rfl) Try.func7
    (ChangeSpec.witness6 (enc := enc) (C := Try.checked) false ⟨#[], #[.agg #[.int .i64 0, .int .i64 0, .slice Option.none 0 0, .slice Option.none 0 0], .slice Option.none 0 0, .slice Option.none 0 0, .int .i64 0], []⟩ 8 (by kernel_rfl) (by kernel_rfl) (by kernel_rfl) (by kernel_rfl)) ?_
  intro W base args ds gs before hval0 hW hcnd _
  have hval : ∀ (j : Nat) t v, Try.f7.params[j]? = some t → args[j]? = some v → Value.okWide Try.prog W .any base t v := hval0
  have hW' := hW
  obtain ⟨p, q, hA0, hV, rfl, hfz, hnd⟩ := hW
  have hA : DataW.TrodAll enc Try.prog W 0 (fun _ => true) true Try.f7.params.toList args.toList ds p := hA0
  rw [Try.params7] at hA hval
  have hlt : ∀ x ∈ p, x.block < W.heap.size := fun x hx => hW'.lt x (List.mem_append_left _ hx)
  have hAk := hA
  obtain ⟨v0, vs0, d0, ds0, p0, q0, hargs, rfl, rfl, h0, r0⟩ := trodAll_cons hA
  obtain ⟨v1, vs1, d1, ds1, p1, q1, rfl, rfl, rfl, h1, r1⟩ := trodAll_cons r0
  obtain ⟨v2, vs2, d2, ds2, p2, q2, rfl, rfl, rfl, h2, r2⟩ := trodAll_cons r1
  obtain ⟨v3, vs3, d3, ds3, p3, q3, rfl, rfl, rfl, h3, r3⟩ := trodAll_cons r2
  obtain ⟨rfl, rfl, rfl⟩ := trodAll_nil r3
  obtain rfl : args = #[v0, v1, v2, v3] := by cases args; simp_all
  obtain ⟨rfl, rfl⟩ := trodVars_none hV
  obtain ⟨a3, rfl, rfl, rfl, w3⟩ := open_int Try.underlying3 (hval 3 3 v3 rfl rfl) h3
  obtain ⟨cs, rfl, _⟩ := okWide_struct und25 (hval 0 25 v0 rfl rfl)
  obtain ⟨fuel, h0⟩ := h0
  obtain ⟨u1, u2, b, hcs, hL⟩ := open_book h0
  obtain rfl : cs = #[iv b.n, iv b.w, u1, u2] := by
    have h : cs.toList = [iv b.n, iv b.w, u1, u2] := hcs
    cases cs
    simp at h
    rw [h]
  obtain ⟨ba1, len1, cap1, rfl⟩ := okWide_slice Try.underlying23 (hval 1 23 v1 rfl rfl)
  obtain ⟨fuel1, h1⟩ := h1
  obtain ⟨x1, l1, e1, hl1⟩ := open_list h1
  obtain rfl : x1 = .slice ba1 len1 cap1 := by
    have h : [Value.slice ba1 len1 cap1] = [x1] := e1
    injection h with h _
    exact h.symm
  obtain ⟨ba2, len2, cap2, rfl⟩ := okWide_slice (show Try.prog.underlying 63 = some (.slice 87) by kernel_rfl) (hval 2 63 v2 rfl rfl)
  obtain ⟨fuel2, h2⟩ := h2
  obtain ⟨x2, l2, e2, hl2⟩ := open_guesses h2
  obtain rfl : x2 = .slice ba2 len2 cap2 := by
    have h : [Value.slice ba2 len2 cap2] = [x2] := e2
    injection h with h _
    exact h.symm
  clear hA0 hval0 hval hA
  simp only [List.append_nil] at hW'
  simp only [List.append_nil] at hAk hlt
  refine (fits_law u1 u2 b _ l1 _ l2 a3 W hL hl1 hl2).mono fun e W' ⟨he, hg⟩ => ?_
  subst he
  refine ⟨_, rfl, post_below (pv := []) hW' hg (fun _ _ _ => (trodAll_cons_mk (shut_bool Try.underlying4 _) trodAll_mk0)) (fun sp hsp => ?_) (fun _ _ => rfl) (List.append_nil _).symm
    (ok_one (by kernel_rfl) rfl (okWide_bool_mk Try.underlying4 _))⟩
  rw [Try.params7]
  refine args_stay laid_out hg (fun t ht => ?_) hAk hlt sp (fun x hx => hsp x (by first | exact hx | simpa using hx))
  simp only [List.mem_cons, List.not_mem_nil, or_false] at ht
  rcases ht with rfl | rfl | rfl | rfl
  · exact ⟨by kernel_rfl, by have h : decide (25 < Try.prog.types.size) = true := (by kernel_rfl); exact of_decide_eq_true h⟩
  · exact ⟨by kernel_rfl, by have h : decide (23 < Try.prog.types.size) = true := (by kernel_rfl); exact of_decide_eq_true h⟩
  · exact ⟨by kernel_rfl, by have h : decide (63 < Try.prog.types.size) = true := (by kernel_rfl); exact of_decide_eq_true h⟩
  · exact ⟨by kernel_rfl, by have h : decide (3 < Try.prog.types.size) = true := (by kernel_rfl); exact of_decide_eq_true h⟩

theorem cipherFits_over : Rows.cipherFitsRow.holds Try.pinned (OpenSpec.ofChange Rows.cipherFitsSpec) :=
  OpenClaim.holds_of_wide 7 Try.f7 rfl rfl rfl rfl rfl rfl rfl ⟨rfl, rfl, rfl, rfl, rfl⟩ rfl rfl rfl rfl rfl (by kernel_rfl) Try.func7 (by kernel_rfl)
    (of_decide_eq_true (by kernel_rfl)) (by unfold Func.isWrapper; first | (rw [if_pos (by decide +kernel)]; kernel_rfl) | (rw [if_neg (by decide +kernel)]; exact ⟨rfl, rfl⟩))
    (fun os started H enc _ => cipherFits_lifted os started H enc)

theorem CipherFits_holds : Rows.CipherFitsSaid := cipherFits_over

end Go.Proofs.Ytkhfkmfofhnmdaa

