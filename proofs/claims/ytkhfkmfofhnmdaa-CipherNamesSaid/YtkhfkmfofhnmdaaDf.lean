/-
  WALKS of the reference's Plain and Fault. Conditions: lists have at most 1000 elements.
-/
import Derived.Test.YtkhfkmfofhnmdaaDd
namespace Go.Proofs.Ytkhfkmfofhnmdaa
open Go.RowKit Go.Shelf
attribute [local go_sem] Oper.semAt_some

theorem In_b (n lo hi : Int) (c : Bool) (w : World) (h : inB lo hi n = c) : Calls Try.prog 24 #[.int .i64 n, .int .i64 lo, .int .i64 hi] w fun e w' => e = .returned (.bool c) ∧ Below w.heap.size w w' := by
  refine (In_any n lo hi w).mono ?_
  rintro e w' ⟨rfl, rfl⟩
  exact ⟨by rw [h], up0⟩
theorem IsKey_b (n ws : Int) (v1 v2 : Value) (k : Ky) (c : Bool) (w : World) (hn0 : 13 ≤ n) (hn1 : n ≤ 41) (h : keyB n k = c) : Calls Try.prog 94 #[.agg #[iv n, iv ws, v1, v2], .agg #[iv k.m, iv k.a, iv k.s]] w fun e w' => e = .returned (.bool c) ∧ Below w.heap.size w w' := by
  rw [← h]
  exact IsKey_any n ws v1 v2 k w hn0 hn1
theorem all_off {α : Type} {l : List α} {p : α → Bool} {x : α} (hx : x ∈ l) (hp : p x = false) : l.all p = false := by
  cases h : l.all p with
  | false => rfl
  | true => rw [List.all_eq_true.1 h x hx] at hp; cases hp

set_option maxRecDepth 100000 in
set_option maxHeartbeats 1000000 in
theorem Plain_any (n ws : Int) (v1 v2 v : Value) (l : List Int) (w : World) (hn0 : 13 ≤ n) (hn1 : n ≤ 41) (hl : IntsAt w v l) :
    Calls Try.prog 25 #[.agg #[iv n, iv ws, v1, v2], v] w fun e w' => e = .returned (.bool (l.all fun x => belowB x n)) ∧ Below w.heap.size w w' := by
  obtain ⟨h1, A1, c1, rfl, _, _⟩ := hl.form
  have HL := Lib.hid hl
  clear hl
  go_enter Try.func25, Try.ntmps25
  go_wp2_with fail
  have N := Box.new (w := w) (t := 25) (cs := #[iv n, iv ws, v1, v2]) rfl
  have hB : Below w.heap.size w (w.alloc (.cells #[iv n, iv ws, v1, v2] 25)) := up_alloc up0 _
  go_loopw [5] (fun i wr => ∃ k : Nat, k ≤ l.length ∧ i = .int .i64 k ∧ Hid (∀ x ∈ l.take k, belowB x n = true) ∧ Box wr w.heap.size 25 #[iv n, iv ws, v1, v2] ∧ Below w.heap.size w wr) (fun i _ => l.length - (intOf i).toNat)
  case atStart => exact ⟨0, by omega, rfl, by simp [Hid], N, hB⟩
  case round =>
    clear N hB
    obtain ⟨k, hk, rfl, hno, N, hB⟩ := hrel
    have HB := Lib.hid hB
    clear hB
    have hW : IntKind.i64.wrap (n - 1) = n - 1 := wrapK_in _ 100 (by omega) (by omega)
    by_cases hlt : k < l.length
    · obtain ⟨x, hx⟩ : ∃ x, l[k]? = some x := ⟨_, List.getElem?_eq_getElem hlt⟩
      have HR := Lib.hid (HL.out.kept HB.out)
      obtain ⟨b1, o1, rfl, hb1, _⟩ := HR.out.at rfl hx
      have k0 : (0 : Int) ≤ (k : Int) := by omega
      have k1 : (k : Int) < (l.length : Int) := by omega
      have HX := Lib.hid hx
      clear hx
      cases hxn : inB 0 (n - 1) x with
      | true =>
        have HI := Lib.hid hxn
        clear hxn
        go_wp2_with fail
        apply wp_region_by 9 [(Fact.eq _), (Fact.eq _), (Fact.eq _), (Fact.eq _), (Fact.eq _), (Fact.eq _), (Fact.eq _), (Fact.eq _), (Fact.eq _)]
        case hm => kernel_rfl
        case hB => kernel_rfl
        case hA => (intro vs; simp only [List.take_succ_cons, List.take_zero, putAll, if_true, Act.put, List.setIfInBounds_toArray, List.set_cons_zero, List.set_cons_succ]; exact rfl)
        case hstep =>
          intro vs
          refine And.intro (fun w hw hd => ?_) ?_
          · refine ite_yes rfl ?_
            simp only [Gives]
            go_simp
            exact ⟨Below.refl _ _, rfl, fun h => by cases h⟩
          refine And.intro (fun w hw hd => ?_) ?_
          · refine ite_yes rfl ?_
            simp only [Gives]
            go_simp
            exact ⟨Below.refl _ _, rfl, fun h => by cases h⟩
          refine And.intro (fun w hw hd => ?_) ?_
          · have d0 := hd 0 (by decide) rfl
            change vs 0 = _ at d0
            have d1 := hd 1 (by decide) rfl
            change vs 1 = _ at d1
            refine ite_yes rfl ?_
            simp only [Gives]
            go_simp
            exact ⟨Below.refl _ _, rfl, fun h => by cases h⟩
          refine And.intro (fun w hw hd => ?_) ?_
          · have d2 := hd 2 (by decide) rfl
            change vs 2 = _ at d2
            refine ite_yes rfl ?_
            have c_N := fun i => (N.kept hw).cell i
            have q0 : w.cell? ⟨b1, o1 + k, none⟩ = some (.int .i64 x) := by simpa using (HR.out.kept hw).cellAt HX.out (j := 0) rfl
            simp only [Gives]
            go_simp
            exact ⟨Below.refl _ _, rfl, fun h => by cases h⟩
          refine And.intro (fun w hw hd => ?_) ?_
          · refine ite_yes rfl ?_
            simp only [Gives]
            go_simp
            exact ⟨Below.refl _ _, rfl, fun h => by cases h⟩
          refine And.intro (fun w hw hd => ?_) ?_
          · have d4 := hd 4 (by decide) rfl
            change vs 4 = _ at d4
            refine ite_yes rfl ?_
            have c_N := fun i => (N.kept hw).cell i
            have q0 : w.cell? ⟨b1, o1 + k, none⟩ = some (.int .i64 x) := by simpa using (HR.out.kept hw).cellAt HX.out (j := 0) rfl
            simp only [Gives]
            go_simp
            exact ⟨Below.refl _ _, rfl, fun h => by cases h⟩
          refine And.intro (fun w hw hd => ?_) ?_
          · have d5 := hd 5 (by decide) rfl
            change vs 5 = _ at d5
            refine ite_yes rfl ?_
            simp only [Gives]
            go_simp
            exact ⟨Below.refl _ _, rfl, fun h => by cases h⟩
          refine And.intro (fun w hw hd => ?_) ?_
          · have d3 := hd 3 (by decide) rfl
            change vs 3 = _ at d3
            have d6 := hd 6 (by decide) rfl
            change vs 6 = _ at d6
            refine ite_yes rfl ?_
            simp only [Gives]
            go_simp
            refine (In_b x 0 (n - 1) true w HI.out).mono ?_
            rintro e w1 ⟨rfl, hb⟩
            exact ⟨_, rfl, hb, rfl, fun h => by cases h⟩
          refine And.intro (fun w hw hd => ?_) ?_
          · have d7 := hd 7 (by decide) rfl
            change vs 7 = _ at d7
            refine ite_yes rfl ?_
            simp only [Gives]
            go_simp
            exact ⟨Below.refl _ _, rfl, fun h => by cases h⟩
          exact trivial
        intro vs wt hw hd hne hlo
        have d0 := hd 0 (by decide)
        change vs 0 = _ at d0
        have d1 := hd 1 (by decide)
        change vs 1 = _ at d1
        have d2 := hd 2 (by decide)
        change vs 2 = _ at d2
        have d3 := hd 3 (by decide)
        change vs 3 = _ at d3
        have d4 := hd 4 (by decide)
        change vs 4 = _ at d4
        have d5 := hd 5 (by decide)
        change vs 5 = _ at d5
        have d6 := hd 6 (by decide)
        change vs 6 = _ at d6
        have d7 := hd 7 (by decide)
        change vs 7 = _ at d7
        have d8 := hd 8 (by decide)
        change vs 8 = _ at d8
        simp only [d0, d1, d2, d3, d4, d5, d6, d7, d8, List.drop_succ_cons, List.drop_nil]
        have N := N.kept hw
        have c_N := fun i => N.cell i
        have f_N := fun i => N.free i
        clear hd hne hlo d0 d1 d2 d3 d4 d5 d6 d7 d8
        go_wp2_with fail
        go_roundw
        case rel =>
          refine ⟨k + 1, by omega, by go_num, fun y hy => ?_, N, up_later HB.out hw⟩
          rw [List.take_add_one, HX.out] at hy
          rcases List.mem_append.1 hy with h | h
          · exact hno.out y h
          · obtain rfl : y = x := by simpa using h
            rw [← inB_below]; exact HI.out
        case measure => simp [intOf]; omega
      | false =>
        have hf : (l.all fun x => belowB x n) = false := all_off (List.mem_of_getElem? HX.out) (by rw [← inB_below]; exact hxn)
        have Hf := Lib.hid hf
        have HI := Lib.hid hxn
        clear hf hxn
        go_wp2_with fail
        apply wp_region_by 9 [(Fact.eq _), (Fact.eq _), (Fact.eq _), (Fact.eq _), (Fact.eq _), (Fact.eq _), (Fact.eq _), (Fact.eq _), (Fact.eq _)]
        case hm => kernel_rfl
        case hB => kernel_rfl
        case hA => (intro vs; simp only [List.take_succ_cons, List.take_zero, putAll, if_true, Act.put, List.setIfInBounds_toArray, List.set_cons_zero, List.set_cons_succ]; exact rfl)
        case hstep =>
          intro vs
          refine And.intro (fun w hw hd => ?_) ?_
          · refine ite_yes rfl ?_
            simp only [Gives]
            go_simp
            exact ⟨Below.refl _ _, rfl, fun h => by cases h⟩
          refine And.intro (fun w hw hd => ?_) ?_
          · refine ite_yes rfl ?_
            simp only [Gives]
            go_simp
            exact ⟨Below.refl _ _, rfl, fun h => by cases h⟩
          refine And.intro (fun w hw hd => ?_) ?_
          · have d0 := hd 0 (by decide) rfl
            change vs 0 = _ at d0
            have d1 := hd 1 (by decide) rfl
            change vs 1 = _ at d1
            refine ite_yes rfl ?_
            simp only [Gives]
            go_simp
            exact ⟨Below.refl _ _, rfl, fun h => by cases h⟩
          refine And.intro (fun w hw hd => ?_) ?_
          · have d2 := hd 2 (by decide) rfl
            change vs 2 = _ at d2
            refine ite_yes rfl ?_
            have c_N := fun i => (N.kept hw).cell i
            have q0 : w.cell? ⟨b1, o1 + k, none⟩ = some (.int .i64 x) := by simpa using (HR.out.kept hw).cellAt HX.out (j := 0) rfl
            simp only [Gives]
            go_simp
            exact ⟨Below.refl _ _, rfl, fun h => by cases h⟩
          refine And.intro (fun w hw hd => ?_) ?_
          · refine ite_yes rfl ?_
            simp only [Gives]
            go_simp
            exact ⟨Below.refl _ _, rfl, fun h => by cases h⟩
          refine And.intro (fun w hw hd => ?_) ?_
          · have d4 := hd 4 (by decide) rfl
            change vs 4 = _ at d4
            refine ite_yes rfl ?_
            have c_N := fun i => (N.kept hw).cell i
            have q0 : w.cell? ⟨b1, o1 + k, none⟩ = some (.int .i64 x) := by simpa using (HR.out.kept hw).cellAt HX.out (j := 0) rfl
            simp only [Gives]
            go_simp
            exact ⟨Below.refl _ _, rfl, fun h => by cases h⟩
          refine And.intro (fun w hw hd => ?_) ?_
          · have d5 := hd 5 (by decide) rfl
            change vs 5 = _ at d5
            refine ite_yes rfl ?_
            simp only [Gives]
            go_simp
            exact ⟨Below.refl _ _, rfl, fun h => by cases h⟩
          refine And.intro (fun w hw hd => ?_) ?_
          · have d3 := hd 3 (by decide) rfl
            change vs 3 = _ at d3
            have d6 := hd 6 (by decide) rfl
            change vs 6 = _ at d6
            refine ite_yes rfl ?_
            simp only [Gives]
            go_simp
            refine (In_b x 0 (n - 1) false w HI.out).mono ?_
            rintro e w1 ⟨rfl, hb⟩
            exact ⟨_, rfl, hb, rfl, fun h => by cases h⟩
          refine And.intro (fun w hw hd => ?_) ?_
          · have d7 := hd 7 (by decide) rfl
            change vs 7 = _ at d7
            refine ite_yes rfl ?_
            simp only [Gives]
            go_simp
            exact ⟨Below.refl _ _, rfl, fun h => by cases h⟩
          exact trivial
        intro vs wt hw hd hne hlo
        have d0 := hd 0 (by decide)
        change vs 0 = _ at d0
        have d1 := hd 1 (by decide)
        change vs 1 = _ at d1
        have d2 := hd 2 (by decide)
        change vs 2 = _ at d2
        have d3 := hd 3 (by decide)
        change vs 3 = _ at d3
        have d4 := hd 4 (by decide)
        change vs 4 = _ at d4
        have d5 := hd 5 (by decide)
        change vs 5 = _ at d5
        have d6 := hd 6 (by decide)
        change vs 6 = _ at d6
        have d7 := hd 7 (by decide)
        change vs 7 = _ at d7
        have d8 := hd 8 (by decide)
        change vs 8 = _ at d8
        simp only [d0, d1, d2, d3, d4, d5, d6, d7, d8, List.drop_succ_cons, List.drop_nil]
        have N := N.kept hw
        have c_N := fun i => N.cell i
        have f_N := fun i => N.free i
        clear hd hne hlo d0 d1 d2 d3 d4 d5 d6 d7 d8
        go_wp2_with fail
        go_ret
        exact ⟨by rw [Hf.out]; rfl, up_later HB.out hw⟩
    · have hf : (l.all fun x => belowB x n) = true := by
        rw [List.all_eq_true]
        have a := hno.out
        rw [List.take_of_length_le (by omega)] at a
        exact a
      have Hf := Lib.hid hf
      clear hf
      go_wp2_with fail
      go_ret
      exact ⟨by rw [Hf.out]; rfl, HB.out⟩

theorem primes_range : ∀ k ∈ List.range 42, primesL.contains (k : Int) = (decide (13 ≤ k) && primeB k) := by decide +kernel
theorem primes_ok (n : Int) : primesL.contains n = (decide (13 ≤ n) && decide (n ≤ 41) && primeB n.toNat) := by
  by_cases h : 0 ≤ n ∧ n ≤ 41
  · have := primes_range n.toNat (List.mem_range.2 (by omega))
    rw [show ((n.toNat : Nat) : Int) = n by omega] at this
    rw [this, show decide (n ≤ 41) = true by simp; omega, Bool.and_true]
    congr 1
    rw [decide_eq_decide]
    omega
  · have e : (decide (13 ≤ n) && decide (n ≤ 41)) = false := by
      rw [Bool.and_eq_false_iff, decide_eq_false_iff_not, decide_eq_false_iff_not]
      omega
    rw [e, Bool.false_and]
    cases hc : primesL.contains n with
    | false => rfl
    | true =>
      have : n ∈ primesL := by simpa using hc
      have : n = 13 ∨ n = 17 ∨ n = 19 ∨ n = 23 ∨ n = 29 ∨ n = 31 ∨ n = 37 ∨ n = 41 := by simpa [primesL] using this
      omega
theorem be3 {b : Bk} (h : 5 < b.ks.length ∨ 8 < b.ds.length) : bookE b = 3 := by
  have : exceedsB b = true := by simpa [exceedsB] using h
  simp [bookE, this]
theorem be1 {b : Bk} (h1 : ¬ 5 < b.ks.length) (h2 : ¬ 8 < b.ds.length) (h : bookB b = false) : bookE b = 1 := by
  have : exceedsB b = false := by simp only [exceedsB, Bool.or_eq_false_iff, decide_eq_false_iff_not]; exact ⟨h1, h2⟩
  simp [bookE, this, h]
theorem be0 {b : Bk} (h1 : ¬ 5 < b.ks.length) (h2 : ¬ 8 < b.ds.length) (h : bookB b = true) : bookE b = 0 := by
  have : exceedsB b = false := by simp only [exceedsB, Bool.or_eq_false_iff, decide_eq_false_iff_not]; exact ⟨h1, h2⟩
  simp [bookE, this, h]
theorem bookB_eq (b : Bk) : bookB b = (primesL.contains b.n && inB 1 b.n b.w && decide (0 < b.ks.length) && b.ks.all (keyB b.n) && decide (0 < b.ds.length) && b.ds.all (fun d => belowB d b.ks.length)) := by
  rw [primes_ok]
  unfold bookB inB
  ac_rfl
end Go.Proofs.Ytkhfkmfofhnmdaa
