/-
  WALK of the reference's Fault. Conditions: lists have at most 1000 elements.
-/
import Derived.Test.YtkhfkmfofhnmdaaDf
namespace Go.Proofs.Ytkhfkmfofhnmdaa
open Go.RowKit Go.Shelf
attribute [local go_sem] Oper.semAt_some

set_option maxRecDepth 100000 in
set_option maxHeartbeats 1500000 in
theorem Fault_any (v1 v2 : Value) (b : Bk) (w : World) (hL : BookAt w v1 v2 b) :
    Calls Try.prog 60 #[.agg #[iv b.n, iv b.w, v1, v2]] w fun e w' => e = .returned (iv (bookE b)) ∧ Below w.heap.size w w' := by
  obtain ⟨_, A1, cap1, rfl, _, _⟩ := hL.ks.form
  obtain ⟨_, A2, cap2, rfl, _, _⟩ := hL.ds.form
  have HL := Lib.hid hL
  clear hL
  by_cases c1 : 5 < b.ks.length
  · have n1 : (5 : Int) < (b.ks.length : Int) := by omega
    have Hr := Lib.hid (be3 (b := b) (.inl c1))
    go_enter Try.func60, Try.ntmps60
    go_wp2_with fail
    go_ret
    exact ⟨by rw [Hr.out]; rfl, up_alloc up0 _⟩
  have n1 : ¬ (5 : Int) < (b.ks.length : Int) := by omega
  by_cases c2 : 8 < b.ds.length
  · have n2 : (8 : Int) < (b.ds.length : Int) := by omega
    have Hr := Lib.hid (be3 (b := b) (.inr c2))
    go_enter Try.func60, Try.ntmps60
    go_wp2_with fail
    go_ret
    exact ⟨by rw [Hr.out]; rfl, up_alloc up0 _⟩
  have n2 : ¬ (8 : Int) < (b.ds.length : Int) := by omega
  cases cp : primesL.contains b.n with
  | false =>
    have CP := Lib.hid cp
    have Hr := Lib.hid (be1 c1 c2 (by rw [bookB_eq, cp]; simp))
    clear cp
    have B1 := Lib.hid (Box.new (w := w) (t := 25) (cs := #[iv b.n, iv b.w, .slice A1 b.ks.length cap1, .slice A2 b.ds.length cap2]) rfl)
    go_enter Try.func60, Try.ntmps60
    go_wp2_with fail
    refine (Prime_any _ _).mono ?_
    rintro e w1 ⟨rfl, hb⟩
    have HB := Lib.hid (up_later (up_alloc (up0 (w := w)) (.cells #[iv b.n, iv b.w, .slice A1 b.ks.length cap1, .slice A2 b.ds.length cap2] 25)) hb)
    have B1 := Lib.hid (B1.out.kept hb)
    clear hb
    rw [CP.out]
    have BB := B1.out
    have cB := fun i => BB.cell i
    have fB := fun i => BB.free i
    have lB := BB.lt
    have mB := Nat.lt_succ_of_lt lB
    go_wp2_with fail
    clear cB fB lB mB BB
    go_ret
    exact ⟨by rw [Hr.out]; rfl, HB.out⟩
  | true =>
  have CP := Lib.hid cp
  have hN : (decide (13 ≤ b.n) && decide (b.n ≤ 41) && primeB b.n.toNat) = true := by rw [← primes_ok]; exact cp
  simp only [Bool.and_eq_true, decide_eq_true_eq] at hN
  obtain ⟨⟨hn0, hn1⟩, -⟩ := hN
  cases cw : inB 1 b.n b.w with
  | false =>
    have CW := Lib.hid cw
    have Hr := Lib.hid (be1 c1 c2 (by rw [bookB_eq, cw]; simp))
    clear cp cw
    have B1 := Lib.hid (Box.new (w := w) (t := 25) (cs := #[iv b.n, iv b.w, .slice A1 b.ks.length cap1, .slice A2 b.ds.length cap2]) rfl)
    go_enter Try.func60, Try.ntmps60
    go_wp2_with fail
    refine (Prime_any _ _).mono ?_
    rintro e w1 ⟨rfl, hb⟩
    have HB := Lib.hid (up_later (up_alloc (up0 (w := w)) (.cells #[iv b.n, iv b.w, .slice A1 b.ks.length cap1, .slice A2 b.ds.length cap2] 25)) hb)
    have B1 := Lib.hid (B1.out.kept hb)
    clear hb
    rw [CP.out]
    have BB := B1.out
    have cB := fun i => BB.cell i
    have fB := fun i => BB.free i
    have lB := BB.lt
    have mB := Nat.lt_succ_of_lt lB
    go_wp2_with fail
    clear cB fB lB mB BB
    refine (In_b b.w 1 b.n _ _ CW.out).mono ?_
    rintro e w2 ⟨rfl, hb⟩
    have HB := Lib.hid (up_later HB.out hb)
    have B1 := Lib.hid (B1.out.kept hb)
    clear hb
    have BB := B1.out
    have cB := fun i => BB.cell i
    have fB := fun i => BB.free i
    have lB := BB.lt
    have mB := Nat.lt_succ_of_lt lB
    go_wp2_with fail
    clear cB fB lB mB BB
    go_ret
    exact ⟨by rw [Hr.out]; rfl, HB.out⟩
  | true =>
  have CW := Lib.hid cw
  by_cases z1 : b.ks.length = 0
  · have m1 : ((b.ks.length : Int) == 0) = true := by rw [beq_iff_eq]; omega
    have Hr := Lib.hid (be1 c1 c2 (by rw [bookB_eq, show decide (0 < b.ks.length) = false from decide_eq_false (by omega)]; simp))
    clear cp cw z1
    have B1 := Lib.hid (Box.new (w := w) (t := 25) (cs := #[iv b.n, iv b.w, .slice A1 b.ks.length cap1, .slice A2 b.ds.length cap2]) rfl)
    go_enter Try.func60, Try.ntmps60
    go_wp2_with fail
    refine (Prime_any _ _).mono ?_
    rintro e w1 ⟨rfl, hb⟩
    have HB := Lib.hid (up_later (up_alloc (up0 (w := w)) (.cells #[iv b.n, iv b.w, .slice A1 b.ks.length cap1, .slice A2 b.ds.length cap2] 25)) hb)
    have B1 := Lib.hid (B1.out.kept hb)
    clear hb
    rw [CP.out]
    have BB := B1.out
    have cB := fun i => BB.cell i
    have fB := fun i => BB.free i
    have lB := BB.lt
    have mB := Nat.lt_succ_of_lt lB
    go_wp2_with fail
    clear cB fB lB mB BB
    refine (In_b b.w 1 b.n _ _ CW.out).mono ?_
    rintro e w2 ⟨rfl, hb⟩
    have HB := Lib.hid (up_later HB.out hb)
    have B1 := Lib.hid (B1.out.kept hb)
    clear hb
    have BB := B1.out
    have cB := fun i => BB.cell i
    have fB := fun i => BB.free i
    have lB := BB.lt
    have mB := Nat.lt_succ_of_lt lB
    go_wp2_with fail
    clear cB fB lB mB BB
    go_ret
    exact ⟨by rw [Hr.out]; rfl, HB.out⟩
  have m1 : ((b.ks.length : Int) == 0) = false := by rw [beq_eq_false_iff_ne]; omega
  by_cases z2 : b.ds.length = 0
  · have m2 : ((b.ds.length : Int) == 0) = true := by rw [beq_iff_eq]; omega
    have Hr := Lib.hid (be1 c1 c2 (by rw [bookB_eq, show decide (0 < b.ds.length) = false from decide_eq_false (by omega)]; simp))
    clear cp cw z2
    have B1 := Lib.hid (Box.new (w := w) (t := 25) (cs := #[iv b.n, iv b.w, .slice A1 b.ks.length cap1, .slice A2 b.ds.length cap2]) rfl)
    go_enter Try.func60, Try.ntmps60
    go_wp2_with fail
    refine (Prime_any _ _).mono ?_
    rintro e w1 ⟨rfl, hb⟩
    have HB := Lib.hid (up_later (up_alloc (up0 (w := w)) (.cells #[iv b.n, iv b.w, .slice A1 b.ks.length cap1, .slice A2 b.ds.length cap2] 25)) hb)
    have B1 := Lib.hid (B1.out.kept hb)
    clear hb
    rw [CP.out]
    have BB := B1.out
    have cB := fun i => BB.cell i
    have fB := fun i => BB.free i
    have lB := BB.lt
    have mB := Nat.lt_succ_of_lt lB
    go_wp2_with fail
    clear cB fB lB mB BB
    refine (In_b b.w 1 b.n _ _ CW.out).mono ?_
    rintro e w2 ⟨rfl, hb⟩
    have HB := Lib.hid (up_later HB.out hb)
    have B1 := Lib.hid (B1.out.kept hb)
    clear hb
    have BB := B1.out
    have cB := fun i => BB.cell i
    have fB := fun i => BB.free i
    have lB := BB.lt
    have mB := Nat.lt_succ_of_lt lB
    go_wp2_with fail
    clear cB fB lB mB BB
    go_ret
    exact ⟨by rw [Hr.out]; rfl, HB.out⟩
  have m2 : ((b.ds.length : Int) == 0) = false := by rw [beq_eq_false_iff_ne]; omega
  clear cp cw
  have B1 := Lib.hid (Box.new (w := w) (t := 25) (cs := #[iv b.n, iv b.w, .slice A1 b.ks.length cap1, .slice A2 b.ds.length cap2]) rfl)
  go_enter Try.func60, Try.ntmps60
  go_wp2_with fail
  refine (Prime_any _ _).mono ?_
  rintro e w1 ⟨rfl, hb⟩
  have HB := Lib.hid (up_later (up_alloc (up0 (w := w)) (.cells #[iv b.n, iv b.w, .slice A1 b.ks.length cap1, .slice A2 b.ds.length cap2] 25)) hb)
  have B1 := Lib.hid (B1.out.kept hb)
  clear hb
  rw [CP.out]
  have BB := B1.out
  have cB := fun i => BB.cell i
  have fB := fun i => BB.free i
  have lB := BB.lt
  have mB := Nat.lt_succ_of_lt lB
  go_wp2_with fail
  clear cB fB lB mB BB
  refine (In_b b.w 1 b.n _ _ CW.out).mono ?_
  rintro e w2 ⟨rfl, hb⟩
  have HB := Lib.hid (up_later HB.out hb)
  have B1 := Lib.hid (B1.out.kept hb)
  clear hb
  have BB := B1.out
  have cB := fun i => BB.cell i
  have fB := fun i => BB.free i
  have lB := BB.lt
  have mB := Nat.lt_succ_of_lt lB
  go_wp2_with fail
  clear cB fB lB mB BB
  go_loopw [3] (fun i wr => ∃ k : Nat, k ≤ b.ks.length ∧ i = .int .i64 k ∧ Hid (∀ x ∈ b.ks.take k, keyB b.n x = true) ∧ Hid (Box wr w.heap.size 25 #[iv b.n, iv b.w, .slice A1 b.ks.length cap1, .slice A2 b.ds.length cap2]) ∧ Hid (Below w.heap.size w wr)) (fun i _ => b.ks.length - (intOf i).toNat)
  case atStart => exact ⟨0, by omega, rfl, by simp [Hid], B1.out, HB.out⟩
  case round =>
    clear B1 HB
    obtain ⟨k, hk, rfl, hno, hbx, HB⟩ := hrel
    have N := hbx.out
    have c1' := fun i => N.cell i
    have k0 : (0 : Int) ≤ (k : Int) := by omega
    by_cases hlt : k < b.ks.length
    · obtain ⟨x, hx⟩ : ∃ x, b.ks[k]? = some x := ⟨_, List.getElem?_eq_getElem hlt⟩
      have HR := Lib.hid (HL.out.ks.kept HB.out)
      obtain ⟨b1, o1, rfl, hb1, _⟩ := HR.out.at rfl hx
      have k1 : (k : Int) < (b.ks.length : Int) := by omega
      have HX := Lib.hid hx
      clear hx
      cases hxn : keyB b.n x with
      | true =>
        have HI := Lib.hid hxn
        clear hxn
        go_wp2_with fail
        clear c1'
        apply wp_region_by 8 [(Fact.eq _), (Fact.eq _), (Fact.eq _), (Fact.eq _), (Fact.eq _), (Fact.eq _), (Fact.eq _), (Fact.eq _)]
        case hm => kernel_rfl
        case hB => kernel_rfl
        case hA => (intro vs; simp only [List.take_succ_cons, List.take_zero, putAll, if_true, Act.put, List.setIfInBounds_toArray, List.set_cons_zero, List.set_cons_succ]; exact rfl)
        case hstep =>
          intro vs
          refine And.intro (fun w hw hd => ?_) ?_
          · refine ite_yes rfl ?_
            have c_N := fun i => (N.kept hw).cell i
            simp only [Gives]
            go_simp
            exact ⟨Below.refl _ _, rfl, fun h => by cases h⟩
          refine And.intro (fun w hw hd => ?_) ?_
          · refine ite_yes rfl ?_
            simp only [Gives]
            go_simp
            exact ⟨Below.refl _ _, rfl, fun h => by cases h⟩
          refine And.intro (fun w hw hd => ?_) ?_
          · have d1 := hd 1 (by decide) rfl
            change vs 1 = _ at d1
            refine ite_yes rfl ?_
            have c_N := fun i => (N.kept hw).cell i
            simp only [Gives]
            go_simp
            exact ⟨Below.refl _ _, rfl, fun h => by cases h⟩
          refine And.intro (fun w hw hd => ?_) ?_
          · refine ite_yes rfl ?_
            simp only [Gives]
            go_simp
            exact ⟨Below.refl _ _, rfl, fun h => by cases h⟩
          refine And.intro (fun w hw hd => ?_) ?_
          · have d2 := hd 2 (by decide) rfl
            change vs 2 = _ at d2
            have d3 := hd 3 (by decide) rfl
            change vs 3 = _ at d3
            refine ite_yes rfl ?_
            simp only [Gives]
            go_simp
            exact ⟨Below.refl _ _, rfl, fun h => by cases h⟩
          refine And.intro (fun w hw hd => ?_) ?_
          · have d4 := hd 4 (by decide) rfl
            change vs 4 = _ at d4
            refine ite_yes rfl ?_
            have c_N := fun i => (N.kept hw).cell i
            have q0 : w.cell? ⟨b1, o1 + k * 3, none⟩ = some (.int .i64 x.m) := (HR.out.kept hw).cellAt HX.out (j := 0) rfl
            have q1 : w.cell? ⟨b1, o1 + k * 3 + 1, none⟩ = some (.int .i64 x.a) := (HR.out.kept hw).cellAt HX.out (j := 1) rfl
            have q2 : w.cell? ⟨b1, o1 + k * 3 + 2, none⟩ = some (.int .i64 x.s) := (HR.out.kept hw).cellAt HX.out (j := 2) rfl
            simp only [Gives]
            go_simp
            exact ⟨Below.refl _ _, rfl, fun h => by cases h⟩
          refine And.intro (fun w hw hd => ?_) ?_
          · have d0 := hd 0 (by decide) rfl
            change vs 0 = _ at d0
            have d5 := hd 5 (by decide) rfl
            change vs 5 = _ at d5
            refine ite_yes rfl ?_
            simp only [Gives]
            go_simp
            refine (IsKey_b b.n b.w _ _ x true w hn0 hn1 HI.out).mono ?_
            rintro e w1 ⟨rfl, hb⟩
            exact ⟨_, rfl, hb, rfl, fun h => by cases h⟩
          refine And.intro (fun w hw hd => ?_) ?_
          · have d6 := hd 6 (by decide) rfl
            change vs 6 = _ at d6
            refine ite_yes rfl ?_
            simp only [Gives]
            go_simp
            exact ⟨Below.refl _ _, rfl, fun h => by cases h⟩
          exact trivial
        intro vs wt hw hd hne hlo
        have d0 := hd 0 (by decide)
        change vs 0 = _ at d0
        have d1 := hd 1 (by decide)
        change vs 1 = _ at d1
        have d2 := hd 2 (by decide)
        change vs 2 = _ at d2
        have d3 := hd 3 (by decide)
        change vs 3 = _ at d3
        have d4 := hd 4 (by decide)
        change vs 4 = _ at d4
        have d5 := hd 5 (by decide)
        change vs 5 = _ at d5
        have d6 := hd 6 (by decide)
        change vs 6 = _ at d6
        have d7 := hd 7 (by decide)
        change vs 7 = _ at d7
        simp only [d0, d1, d2, d3, d4, d5, d6, d7, List.drop_succ_cons, List.drop_nil]
        have N := N.kept hw
        have c_N := fun i => N.cell i
        have f_N := fun i => N.free i
        clear hd hne hlo d0 d1 d2 d3 d4 d5 d6 d7
        go_wp2_with fail
        go_roundw
        case rel =>
          refine ⟨k + 1, by omega, by go_num, fun y hy => ?_, N, up_later HB.out hw⟩
          rw [List.take_add_one, HX.out] at hy
          rcases List.mem_append.1 hy with h | h
          · exact hno.out y h
          · obtain rfl : y = x := by simpa using h
            exact HI.out
        case measure => simp [intOf]; omega
      | false =>
        have Hr := Lib.hid (be1 c1 c2 (by rw [bookB_eq, all_off (List.mem_of_getElem? HX.out) hxn]; simp))
        have HI := Lib.hid hxn
        clear hxn
        go_wp2_with fail
        clear c1'
        apply wp_region_by 8 [(Fact.eq _), (Fact.eq _), (Fact.eq _), (Fact.eq _), (Fact.eq _), (Fact.eq _), (Fact.eq _), (Fact.eq _)]
        case hm => kernel_rfl
        case hB => kernel_rfl
        case hA => (intro vs; simp only [List.take_succ_cons, List.take_zero, putAll, if_true, Act.put, List.setIfInBounds_toArray, List.set_cons_zero, List.set_cons_succ]; exact rfl)
        case hstep =>
          intro vs
          refine And.intro (fun w hw hd => ?_) ?_
          · refine ite_yes rfl ?_
            have c_N := fun i => (N.kept hw).cell i
            simp only [Gives]
            go_simp
            exact ⟨Below.refl _ _, rfl, fun h => by cases h⟩
          refine And.intro (fun w hw hd => ?_) ?_
          · refine ite_yes rfl ?_
            simp only [Gives]
            go_simp
            exact ⟨Below.refl _ _, rfl, fun h => by cases h⟩
          refine And.intro (fun w hw hd => ?_) ?_
          · have d1 := hd 1 (by decide) rfl
            change vs 1 = _ at d1
            refine ite_yes rfl ?_
            have c_N := fun i => (N.kept hw).cell i
            simp only [Gives]
            go_simp
            exact ⟨Below.refl _ _, rfl, fun h => by cases h⟩
          refine And.intro (fun w hw hd => ?_) ?_
          · refine ite_yes rfl ?_
            simp only [Gives]
            go_simp
            exact ⟨Below.refl _ _, rfl, fun h => by cases h⟩
          refine And.intro (fun w hw hd => ?_) ?_
          · have d2 := hd 2 (by decide) rfl
            change vs 2 = _ at d2
            have d3 := hd 3 (by decide) rfl
            change vs 3 = _ at d3
            refine ite_yes rfl ?_
            simp only [Gives]
            go_simp
            exact ⟨Below.refl _ _, rfl, fun h => by cases h⟩
          refine And.intro (fun w hw hd => ?_) ?_
          · have d4 := hd 4 (by decide) rfl
            change vs 4 = _ at d4
            refine ite_yes rfl ?_
            have c_N := fun i => (N.kept hw).cell i
            have q0 : w.cell? ⟨b1, o1 + k * 3, none⟩ = some (.int .i64 x.m) := (HR.out.kept hw).cellAt HX.out (j := 0) rfl
            have q1 : w.cell? ⟨b1, o1 + k * 3 + 1, none⟩ = some (.int .i64 x.a) := (HR.out.kept hw).cellAt HX.out (j := 1) rfl
            have q2 : w.cell? ⟨b1, o1 + k * 3 + 2, none⟩ = some (.int .i64 x.s) := (HR.out.kept hw).cellAt HX.out (j := 2) rfl
            simp only [Gives]
            go_simp
            exact ⟨Below.refl _ _, rfl, fun h => by cases h⟩
          refine And.intro (fun w hw hd => ?_) ?_
          · have d0 := hd 0 (by decide) rfl
            change vs 0 = _ at d0
            have d5 := hd 5 (by decide) rfl
            change vs 5 = _ at d5
            refine ite_yes rfl ?_
            simp only [Gives]
            go_simp
            refine (IsKey_b b.n b.w _ _ x false w hn0 hn1 HI.out).mono ?_
            rintro e w1 ⟨rfl, hb⟩
            exact ⟨_, rfl, hb, rfl, fun h => by cases h⟩
          refine And.intro (fun w hw hd => ?_) ?_
          · have d6 := hd 6 (by decide) rfl
            change vs 6 = _ at d6
            refine ite_yes rfl ?_
            simp only [Gives]
            go_simp
            exact ⟨Below.refl _ _, rfl, fun h => by cases h⟩
          exact trivial
        intro vs wt hw hd hne hlo
        have d0 := hd 0 (by decide)
        change vs 0 = _ at d0
        have d1 := hd 1 (by decide)
        change vs 1 = _ at d1
        have d2 := hd 2 (by decide)
        change vs 2 = _ at d2
        have d3 := hd 3 (by decide)
        change vs 3 = _ at d3
        have d4 := hd 4 (by decide)
        change vs 4 = _ at d4
        have d5 := hd 5 (by decide)
        change vs 5 = _ at d5
        have d6 := hd 6 (by decide)
        change vs 6 = _ at d6
        have d7 := hd 7 (by decide)
        change vs 7 = _ at d7
        simp only [d0, d1, d2, d3, d4, d5, d6, d7, List.drop_succ_cons, List.drop_nil]
        have N := N.kept hw
        have c_N := fun i => N.cell i
        have f_N := fun i => N.free i
        clear hd hne hlo d0 d1 d2 d3 d4 d5 d6 d7
        go_wp2_with fail
        go_ret
        exact ⟨by rw [Hr.out]; rfl, up_later HB.out hw⟩
    · have hf : b.ks.all (keyB b.n) = true := by
        rw [List.all_eq_true]
        have a := hno.out
        rw [List.take_of_length_le (by omega)] at a
        exact a
      have Hks := Lib.hid hf
      have HB1 := Lib.hid HB.out
      have hb1 := Lib.hid hbx.out
      clear hf hno
      go_wp2_with fail
      clear c1' N HB hbx
      go_loopw [4] (fun i wr => ∃ k : Nat, k ≤ b.ds.length ∧ i = .int .i64 k ∧ Hid (∀ x ∈ b.ds.take k, belowB x b.ks.length = true) ∧ Hid (Box wr w.heap.size 25 #[iv b.n, iv b.w, .slice A1 b.ks.length cap1, .slice A2 b.ds.length cap2]) ∧ Hid (Below w.heap.size w wr)) (fun i _ => b.ds.length - (intOf i).toNat)
      case atStart => exact ⟨0, by omega, rfl, by simp [Hid], hb1.out, HB1.out⟩
      case round =>
        clear HB1 hb1
        obtain ⟨k, hk, rfl, hno, hbx, HB⟩ := hrel
        have N := hbx.out
        have c1' := fun i => N.cell i
        have k0 : (0 : Int) ≤ (k : Int) := by omega
        have hW : IntKind.i64.wrap ((b.ks.length : Int) - 1) = (b.ks.length : Int) - 1 := wrapK_in _ 1000 (by omega) (by omega)
        by_cases hlt : k < b.ds.length
        · obtain ⟨x, hx⟩ : ∃ x, b.ds[k]? = some x := ⟨_, List.getElem?_eq_getElem hlt⟩
          have HR := Lib.hid (HL.out.ds.kept HB.out)
          obtain ⟨b1, o1, rfl, hb1, _⟩ := HR.out.at rfl hx
          have k1 : (k : Int) < (b.ds.length : Int) := by omega
          have HX := Lib.hid hx
          clear hx
          cases hxn : inB 0 ((b.ks.length : Int) - 1) x with
          | true =>
            have HI := Lib.hid hxn
            clear hxn
            go_wp2_with fail
            clear c1'
            apply wp_region_by 11 [(Fact.eq _), (Fact.eq _), (Fact.eq _), (Fact.eq _), (Fact.eq _), (Fact.eq _), (Fact.eq _), (Fact.eq _), (Fact.eq _), (Fact.eq _), (Fact.eq _)]
            case hm => kernel_rfl
            case hB => kernel_rfl
            case hA => (intro vs; simp only [List.take_succ_cons, List.take_zero, putAll, if_true, Act.put, List.setIfInBounds_toArray, List.set_cons_zero, List.set_cons_succ]; exact rfl)
            case hstep =>
              intro vs
              refine And.intro (fun w hw hd => ?_) ?_
              · refine ite_yes rfl ?_
                simp only [Gives]
                go_simp
                exact ⟨Below.refl _ _, rfl, fun h => by cases h⟩
              refine And.intro (fun w hw hd => ?_) ?_
              · have d0 := hd 0 (by decide) rfl
                change vs 0 = _ at d0
                refine ite_yes rfl ?_
                have c_N := fun i => (N.kept hw).cell i
                simp only [Gives]
                go_simp
                exact ⟨Below.refl _ _, rfl, fun h => by cases h⟩
              refine And.intro (fun w hw hd => ?_) ?_
              · refine ite_yes rfl ?_
                simp only [Gives]
                go_simp
                exact ⟨Below.refl _ _, rfl, fun h => by cases h⟩
              refine And.intro (fun w hw hd => ?_) ?_
              · have d1 := hd 1 (by decide) rfl
                change vs 1 = _ at d1
                have d2 := hd 2 (by decide) rfl
                change vs 2 = _ at d2
                refine ite_yes rfl ?_
                simp only [Gives]
                go_simp
                exact ⟨Below.refl _ _, rfl, fun h => by cases h⟩
              refine And.intro (fun w hw hd => ?_) ?_
              · have d3 := hd 3 (by decide) rfl
                change vs 3 = _ at d3
                refine ite_yes rfl ?_
                have c_N := fun i => (N.kept hw).cell i
                have q0 : w.cell? ⟨b1, o1 + k, none⟩ = some (.int .i64 x) := by simpa using (HR.out.kept hw).cellAt HX.out (j := 0) rfl
                simp only [Gives]
                go_simp
                exact ⟨Below.refl _ _, rfl, fun h => by cases h⟩
              refine And.intro (fun w hw hd => ?_) ?_
              · refine ite_yes rfl ?_
                simp only [Gives]
                go_simp
                exact ⟨Below.refl _ _, rfl, fun h => by cases h⟩
              refine And.intro (fun w hw hd => ?_) ?_
              · have d5 := hd 5 (by decide) rfl
                change vs 5 = _ at d5
                refine ite_yes rfl ?_
                have c_N := fun i => (N.kept hw).cell i
                simp only [Gives]
                go_simp
                exact ⟨Below.refl _ _, rfl, fun h => by cases h⟩
              refine And.intro (fun w hw hd => ?_) ?_
              · have d6 := hd 6 (by decide) rfl
                change vs 6 = _ at d6
                refine ite_yes rfl ?_
                simp only [Gives]
                go_simp
                exact ⟨Below.refl _ _, rfl, fun h => by cases h⟩
              refine And.intro (fun w hw hd => ?_) ?_
              · have d7 := hd 7 (by decide) rfl
                change vs 7 = _ at d7
                refine ite_yes rfl ?_
                simp only [Gives]
                go_simp
                exact ⟨Below.refl _ _, rfl, fun h => by cases h⟩
              refine And.intro (fun w hw hd => ?_) ?_
              · have d4 := hd 4 (by decide) rfl
                change vs 4 = _ at d4
                have d8 := hd 8 (by decide) rfl
                change vs 8 = _ at d8
                refine ite_yes rfl ?_
                simp only [Gives]
                go_simp
                refine (In_b x 0 ((b.ks.length : Int) - 1) true w HI.out).mono ?_
                rintro e w1 ⟨rfl, hb⟩
                exact ⟨_, rfl, hb, rfl, fun h => by cases h⟩
              refine And.intro (fun w hw hd => ?_) ?_
              · have d9 := hd 9 (by decide) rfl
                change vs 9 = _ at d9
                refine ite_yes rfl ?_
                simp only [Gives]
                go_simp
                exact ⟨Below.refl _ _, rfl, fun h => by cases h⟩
              exact trivial
            intro vs wt hw hd hne hlo
            have d0 := hd 0 (by decide)
            change vs 0 = _ at d0
            have d1 := hd 1 (by decide)
            change vs 1 = _ at d1
            have d2 := hd 2 (by decide)
            change vs 2 = _ at d2
            have d3 := hd 3 (by decide)
            change vs 3 = _ at d3
            have d4 := hd 4 (by decide)
            change vs 4 = _ at d4
            have d5 := hd 5 (by decide)
            change vs 5 = _ at d5
            have d6 := hd 6 (by decide)
            change vs 6 = _ at d6
            have d7 := hd 7 (by decide)
            change vs 7 = _ at d7
            have d8 := hd 8 (by decide)
            change vs 8 = _ at d8
            have d9 := hd 9 (by decide)
            change vs 9 = _ at d9
            have d10 := hd 10 (by decide)
            change vs 10 = _ at d10
            simp only [d0, d1, d2, d3, d4, d5, d6, d7, d8, d9, d10, List.drop_succ_cons, List.drop_nil]
            have N := N.kept hw
            have c_N := fun i => N.cell i
            have f_N := fun i => N.free i
            clear hd hne hlo d0 d1 d2 d3 d4 d5 d6 d7 d8 d9 d10
            go_wp2_with fail
            go_roundw
            case rel =>
              refine ⟨k + 1, by omega, by go_num, fun y hy => ?_, N, up_later HB.out hw⟩
              rw [List.take_add_one, HX.out] at hy
              rcases List.mem_append.1 hy with h | h
              · exact hno.out y h
              · obtain rfl : y = x := by simpa using h
                rw [← inB_below]; exact HI.out
            case measure => simp [intOf]; omega
          | false =>
            have Hr := Lib.hid (be1 c1 c2 (by rw [bookB_eq, all_off (p := fun d => belowB d b.ks.length) (List.mem_of_getElem? HX.out) (by rw [← inB_below]; exact hxn)]; simp))
            have HI := Lib.hid hxn
            clear hxn
            go_wp2_with fail
            clear c1'
            apply wp_region_by 11 [(Fact.eq _), (Fact.eq _), (Fact.eq _), (Fact.eq _), (Fact.eq _), (Fact.eq _), (Fact.eq _), (Fact.eq _), (Fact.eq _), (Fact.eq _), (Fact.eq _)]
            case hm => kernel_rfl
            case hB => kernel_rfl
            case hA => (intro vs; simp only [List.take_succ_cons, List.take_zero, putAll, if_true, Act.put, List.setIfInBounds_toArray, List.set_cons_zero, List.set_cons_succ]; exact rfl)
            case hstep =>
              intro vs
              refine And.intro (fun w hw hd => ?_) ?_
              · refine ite_yes rfl ?_
                simp only [Gives]
                go_simp
                exact ⟨Below.refl _ _, rfl, fun h => by cases h⟩
              refine And.intro (fun w hw hd => ?_) ?_
              · have d0 := hd 0 (by decide) rfl
                change vs 0 = _ at d0
                refine ite_yes rfl ?_
                have c_N := fun i => (N.kept hw).cell i
                simp only [Gives]
                go_simp
                exact ⟨Below.refl _ _, rfl, fun h => by cases h⟩
              refine And.intro (fun w hw hd => ?_) ?_
              · refine ite_yes rfl ?_
                simp only [Gives]
                go_simp
                exact ⟨Below.refl _ _, rfl, fun h => by cases h⟩
              refine And.intro (fun w hw hd => ?_) ?_
              · have d1 := hd 1 (by decide) rfl
                change vs 1 = _ at d1
                have d2 := hd 2 (by decide) rfl
                change vs 2 = _ at d2
                refine ite_yes rfl ?_
                simp only [Gives]
                go_simp
                exact ⟨Below.refl _ _, rfl, fun h => by cases h⟩
              refine And.intro (fun w hw hd => ?_) ?_
              · have d3 := hd 3 (by decide) rfl
                change vs 3 = _ at d3
                refine ite_yes rfl ?_
                have c_N := fun i => (N.kept hw).cell i
                have q0 : w.cell? ⟨b1, o1 + k, none⟩ = some (.int .i64 x) := by simpa using (HR.out.kept hw).cellAt HX.out (j := 0) rfl
                simp only [Gives]
                go_simp
                exact ⟨Below.refl _ _, rfl, fun h => by cases h⟩
              refine And.intro (fun w hw hd => ?_) ?_
              · refine ite_yes rfl ?_
                simp only [Gives]
                go_simp
                exact ⟨Below.refl _ _, rfl, fun h => by cases h⟩
              refine And.intro (fun w hw hd => ?_) ?_
              · have d5 := hd 5 (by decide) rfl
                change vs 5 = _ at d5
                refine ite_yes rfl ?_
                have c_N := fun i => (N.kept hw).cell i
                simp only [Gives]
                go_simp
                exact ⟨Below.refl _ _, rfl, fun h => by cases h⟩
              refine And.intro (fun w hw hd => ?_) ?_
              · have d6 := hd 6 (by decide) rfl
                change vs 6 = _ at d6
                refine ite_yes rfl ?_
                simp only [Gives]
                go_simp
                exact ⟨Below.refl _ _, rfl, fun h => by cases h⟩
              refine And.intro (fun w hw hd => ?_) ?_
              · have d7 := hd 7 (by decide) rfl
                change vs 7 = _ at d7
                refine ite_yes rfl ?_
                simp only [Gives]
                go_simp
                exact ⟨Below.refl _ _, rfl, fun h => by cases h⟩
              refine And.intro (fun w hw hd => ?_) ?_
              · have d4 := hd 4 (by decide) rfl
                change vs 4 = _ at d4
                have d8 := hd 8 (by decide) rfl
                change vs 8 = _ at d8
                refine ite_yes rfl ?_
                simp only [Gives]
                go_simp
                refine (In_b x 0 ((b.ks.length : Int) - 1) false w HI.out).mono ?_
                rintro e w1 ⟨rfl, hb⟩
                exact ⟨_, rfl, hb, rfl, fun h => by cases h⟩
              refine And.intro (fun w hw hd => ?_) ?_
              · have d9 := hd 9 (by decide) rfl
                change vs 9 = _ at d9
                refine ite_yes rfl ?_
                simp only [Gives]
                go_simp
                exact ⟨Below.refl _ _, rfl, fun h => by cases h⟩
              exact trivial
            intro vs wt hw hd hne hlo
            have d0 := hd 0 (by decide)
            change vs 0 = _ at d0
            have d1 := hd 1 (by decide)
            change vs 1 = _ at d1
            have d2 := hd 2 (by decide)
            change vs 2 = _ at d2
            have d3 := hd 3 (by decide)
            change vs 3 = _ at d3
            have d4 := hd 4 (by decide)
            change vs 4 = _ at d4
            have d5 := hd 5 (by decide)
            change vs 5 = _ at d5
            have d6 := hd 6 (by decide)
            change vs 6 = _ at d6
            have d7 := hd 7 (by decide)
            change vs 7 = _ at d7
            have d8 := hd 8 (by decide)
            change vs 8 = _ at d8
            have d9 := hd 9 (by decide)
            change vs 9 = _ at d9
            have d10 := hd 10 (by decide)
            change vs 10 = _ at d10
            simp only [d0, d1, d2, d3, d4, d5, d6, d7, d8, d9, d10, List.drop_succ_cons, List.drop_nil]
            have N := N.kept hw
            have c_N := fun i => N.cell i
            have f_N := fun i => N.free i
            clear hd hne hlo d0 d1 d2 d3 d4 d5 d6 d7 d8 d9 d10
            go_wp2_with fail
            go_ret
            exact ⟨by rw [Hr.out]; rfl, up_later HB.out hw⟩
        · have hf : b.ds.all (fun d => belowB d b.ks.length) = true := by
            rw [List.all_eq_true]
            have a := hno.out
            rw [List.take_of_length_le (by omega)] at a
            exact a
          have Hr := Lib.hid (be0 c1 c2 (by rw [bookB_eq, CP.out, CW.out, Hks.out, hf, decide_eq_true (p := 0 < b.ks.length) (by omega), decide_eq_true (p := 0 < b.ds.length) (by omega)]; rfl))
          clear hf
          go_wp2_with fail
          go_ret
          exact ⟨by rw [Hr.out]; rfl, HB.out⟩
end Go.Proofs.Ytkhfkmfofhnmdaa
