/-
  WALKS of the law's Same, same, three, list, Code, and awake: the first examples of the document are returned. No condition.
-/
import Derived.Test.YtonekgefegfapaaGreatGk
namespace Go.Proofs.YtonekgefegfapaaGreat
open Go.RowKit

theorem take_eq_all {α : Type} {a b : List α} {n : Nat} (ha : a.length = n) (hb : b.length = n) (h : a.take n = b.take n) : a = b := by
  rwa [List.take_of_length_le (by omega), List.take_of_length_le (by omega)] at h
theorem take_next {α : Type} {a b : List α} {k : Nat} {x : α} (ha : a[k]? = some x) (hb : b[k]? = some x) (h : a.take k = b.take k) : a.take (k + 1) = b.take (k + 1) := by
  rw [List.take_add_one, List.take_add_one, h, ha, hb]
set_option maxRecDepth 100000 in
set_option maxHeartbeats 1000000 in
theorem Same_any (v u : Value) (a b : List Int) (w : World) (ha : RowsAny w v 1 ic a) (hb : RowsAny w u 1 ic b) : Calls Tryz.prog 31 #[v, u] w fun e w' => e = .returned (.bool (decide (a = b))) ∧ Below w.heap.size w w' := by
  obtain ⟨A, cap, hv, hca, hcm⟩ := ha.form
  subst hv
  have hla : a.length ≤ 9223372036854775807 := Nat.le_trans hca hcm
  clear hca hcm
  obtain ⟨B, capb, hv2, -, -⟩ := hb.form
  subst hv2
  by_cases hne : a.length = b.length
  · have hni : ((a.length : Int) == (b.length : Int)) = true := by rw [beq_iff_eq]; omega
    have Hne := Lib.hid hne
    clear hne
    go_enter Tryz.func31, Tryz.ntmps31
    go_wp2_with fail
    clear hni
    go_loopw [5] (fun i wr => ∃ k : Nat, k ≤ a.length ∧ i = iv k ∧ Hid (a.take k = b.take k) ∧ Below w.heap.size w wr) (fun i _ => a.length - (intOf i).toNat)
    case atStart => exact ⟨0, by omega, rfl, Lib.hid (by simp), Below.refl _ _⟩
    case round =>
      obtain ⟨k, hk, rfl, HT, hB⟩ := hrel
      by_cases hlt : k < a.length
      · have hltb : k < b.length := by have := Hne.out; omega
        obtain ⟨x, hx⟩ : ∃ x, a[k]? = some x := ⟨_, List.getElem?_eq_getElem hlt⟩
        obtain ⟨y, hy⟩ : ∃ y, b[k]? = some y := ⟨_, List.getElem?_eq_getElem hltb⟩
        obtain ⟨g, off, rfl, hg, hc⟩ := (ha.kept hB).at rfl hx
        obtain ⟨g2, off2, rfl, hg2, hc2⟩ := (hb.kept hB).at rfl hy
        have q0 : wr.cell? ⟨g, off + k, none⟩ = some (iv x) := by simpa using hc 0 _ rfl
        have q1 : wr.cell? ⟨g2, off2 + k, none⟩ = some (iv y) := by simpa using hc2 0 _ rfl
        have Hx := Lib.hid hx
        have Hy := Lib.hid hy
        have k0 : (0 : Int) ≤ (k : Int) := by omega
        have ka : (k : Int) < (a.length : Int) := by omega
        have kb : (k : Int) < (b.length : Int) := by omega
        clear hx hy hc hc2
        go_wp2_with fail
        apply wp_region_by 9 [(Fact.eq _), (Fact.eq _), (Fact.eq _), (Fact.eq _), (Fact.eq _), (Fact.eq _), (Fact.eq _), (Fact.eq _), (Fact.eq _)]
        case hm => kernel_rfl
        case hB => kernel_rfl
        case hA => (intro vs; simp only [List.take_succ_cons, List.take_zero, putAll, if_true, Act.put, List.setIfInBounds_toArray, List.set_cons_zero, List.set_cons_succ]; exact rfl)
        case hstep =>
          intro vs
          refine And.intro (fun w hw hd => ?_) ?_
          · refine ite_yes rfl ?_
            simp only [Gives]
            go_simp
            exact ⟨Below.refl _ _, rfl, fun h => by cases h⟩
          refine And.intro (fun w hw hd => ?_) ?_
          · refine ite_yes rfl ?_
            simp only [Gives]
            go_simp
            exact ⟨Below.refl _ _, rfl, fun h => by cases h⟩
          refine And.intro (fun w hw hd => ?_) ?_
          · have d0 := hd 0 (by decide) rfl
            change vs 0 = _ at d0
            have d1 := hd 1 (by decide) rfl
            change vs 1 = _ at d1
            refine ite_yes rfl ?_
            simp only [Gives]
            go_simp
            exact ⟨Below.refl _ _, rfl, fun h => by cases h⟩
          refine And.intro (fun w hw hd => ?_) ?_
          · have d2 := hd 2 (by decide) rfl
            change vs 2 = _ at d2
            refine ite_yes rfl ?_
            have p0 := (hw.cell (p := ⟨g, off + k, none⟩) hg).trans q0
            have p1 := (hw.cell (p := ⟨g2, off2 + k, none⟩) hg2).trans q1
            simp only [Gives]
            go_simp
            exact ⟨Below.refl _ _, rfl, fun h => by cases h⟩
          refine And.intro (fun w hw hd => ?_) ?_
          · refine ite_yes rfl ?_
            simp only [Gives]
            go_simp
            exact ⟨Below.refl _ _, rfl, fun h => by cases h⟩
          refine And.intro (fun w hw hd => ?_) ?_
          · refine ite_yes rfl ?_
            simp only [Gives]
            go_simp
            exact ⟨Below.refl _ _, rfl, fun h => by cases h⟩
          refine And.intro (fun w hw hd => ?_) ?_
          · have d4 := hd 4 (by decide) rfl
            change vs 4 = _ at d4
            have d5 := hd 5 (by decide) rfl
            change vs 5 = _ at d5
            refine ite_yes rfl ?_
            simp only [Gives]
            go_simp
            exact ⟨Below.refl _ _, rfl, fun h => by cases h⟩
          refine And.intro (fun w hw hd => ?_) ?_
          · have d6 := hd 6 (by decide) rfl
            change vs 6 = _ at d6
            refine ite_yes rfl ?_
            have p0 := (hw.cell (p := ⟨g, off + k, none⟩) hg).trans q0
            have p1 := (hw.cell (p := ⟨g2, off2 + k, none⟩) hg2).trans q1
            simp only [Gives]
            go_simp
            exact ⟨Below.refl _ _, rfl, fun h => by cases h⟩
          refine And.intro (fun w hw hd => ?_) ?_
          · have d3 := hd 3 (by decide) rfl
            change vs 3 = _ at d3
            have d7 := hd 7 (by decide) rfl
            change vs 7 = _ at d7
            refine ite_yes rfl ?_
            simp only [Gives]
            go_simp
            exact ⟨Below.refl _ _, rfl, fun h => by cases h⟩
          exact trivial
        intro vs wt hw hd hne hlo
        have d0 := hd 0 (by decide)
        change vs 0 = _ at d0
        have d1 := hd 1 (by decide)
        change vs 1 = _ at d1
        have d2 := hd 2 (by decide)
        change vs 2 = _ at d2
        have d3 := hd 3 (by decide)
        change vs 3 = _ at d3
        have d4 := hd 4 (by decide)
        change vs 4 = _ at d4
        have d5 := hd 5 (by decide)
        change vs 5 = _ at d5
        have d6 := hd 6 (by decide)
        change vs 6 = _ at d6
        have d7 := hd 7 (by decide)
        change vs 7 = _ at d7
        have d8 := hd 8 (by decide)
        change vs 8 = _ at d8
        simp only [d0, d1, d2, d3, d4, d5, d6, d7, d8, List.drop_succ_cons, List.drop_nil]
        clear hd hne hlo d0 d1 d2 d3 d4 d5 d6 d7 d8
        have hB := up_later hB hw
        clear hw q0 q1
        by_cases hxy : x = y
        · subst hxy
          have e1 : (x != x) = false := by simp
          rw [e1]
          have HN := Lib.hid (take_next Hx.out Hy.out HT.out)
          go_wp2_with fail
          go_roundw
          case rel => exact ⟨k + 1, by omega, by go_num, HN, hB⟩
          case measure => simp [intOf]; omega
        · have e1 : (x != y) = true := by simpa using hxy
          rw [e1]
          have Hr := Lib.hid (show decide (a = b) = false from decide_eq_false fun e => by
            have h1 := Hx.out
            rw [e, Hy.out] at h1
            exact hxy (Option.some.inj h1).symm)
          go_wp2_with fail
          go_ret
          exact ⟨ret_bool Hr.out.symm, hB⟩
      · have Hr := Lib.hid (show decide (a = b) = true from decide_eq_true (take_eq_all (n := k) (by omega) (by have := Hne.out; omega) HT.out))
        go_wp2_with fail
        go_ret
        exact ⟨ret_bool Hr.out.symm, hB⟩
  · have Hr := Lib.hid (show decide (a = b) = false from decide_eq_false fun e => hne (by rw [e]))
    have hni : ((a.length : Int) == (b.length : Int)) = false := by rw [beq_eq_false_iff_ne]; omega
    clear hne
    go_enter Tryz.func31, Tryz.ntmps31
    go_wp2_with fail
    go_ret
    exact ⟨ret_bool Hr.out.symm, up0⟩
theorem TextsAny.at {w : World} {A : Option Addr} {n cap k : Nat} {ps : List (Value × List Int)} {x : Value × List Int} (h : TextsAny w (.slice A n cap) ps) (hx : ps[k]? = some x) :
    ∃ b off, A = some ⟨b, off, none⟩ ∧ b < w.heap.size ∧ w.cell? ⟨b, off + k, none⟩ = some x.1 ∧ RowsAny w x.1 1 ic x.2 := by
  obtain ⟨b, off, e, hlt, hc⟩ := h.1.at rfl hx
  exact ⟨b, off, e, hlt, by simpa using hc 0 _ rfl, h.2 x (List.mem_of_getElem? hx)⟩
set_option maxRecDepth 100000 in
set_option maxHeartbeats 1000000 in
theorem same_any (v u : Value) (ps qs : List (Value × List Int)) (w : World) (ha : TextsAny w v ps) (hb : TextsAny w u qs) : Calls Tryz.prog 37 #[v, u] w fun e w' => e = .returned (.bool (decide (ps.map (·.2) = qs.map (·.2)))) ∧ Below w.heap.size w w' := by
  obtain ⟨A, cap, hv, hca, hcm⟩ := ha.1.form
  subst hv
  have hla : ps.length ≤ 9223372036854775807 := Nat.le_trans hca hcm
  clear hca hcm
  obtain ⟨B, capb, hv2, -, -⟩ := hb.1.form
  subst hv2
  have HA := Lib.hid ha
  have HBt := Lib.hid hb
  clear ha hb
  by_cases hne : ps.length = qs.length
  · have hni : ((ps.length : Int) == (qs.length : Int)) = true := by rw [beq_iff_eq]; omega
    have Hne := Lib.hid hne
    clear hne
    go_enter Tryz.func37, Tryz.ntmps37
    go_wp2_with fail
    clear hni
    go_loopw [5] (fun i wr => ∃ k : Nat, k ≤ ps.length ∧ i = iv k ∧ Hid ((ps.map (·.2)).take k = (qs.map (·.2)).take k) ∧ Below w.heap.size w wr) (fun i _ => ps.length - (intOf i).toNat)
    case atStart => exact ⟨0, by omega, rfl, Lib.hid (by simp), Below.refl _ _⟩
    case round =>
      obtain ⟨k, hk, rfl, HT, hB⟩ := hrel
      by_cases hlt : k < ps.length
      · have hltb : k < qs.length := by have := Hne.out; omega
        obtain ⟨⟨xv, x⟩, hx⟩ : ∃ x, ps[k]? = some x := ⟨_, List.getElem?_eq_getElem hlt⟩
        obtain ⟨⟨yv, y⟩, hy⟩ : ∃ y, qs[k]? = some y := ⟨_, List.getElem?_eq_getElem hltb⟩
        obtain ⟨g, off, rfl, hg, q0, r0⟩ := (HA.out.kept hB).at hx
        obtain ⟨g2, off2, rfl, hg2, q1, r1⟩ := (HBt.out.kept hB).at hy
        have Hx := Lib.hid (show (ps.map (·.2))[k]? = some x by rw [List.getElem?_map, hx]; rfl)
        have Hy := Lib.hid (show (qs.map (·.2))[k]? = some y by rw [List.getElem?_map, hy]; rfl)
        obtain ⟨xA, xc, hxv, -, -⟩ := r0.form
        obtain ⟨yA, yc, hyv, -, -⟩ := r1.form
        simp only at hxv hyv q0 q1
        subst hxv hyv
        have R0 := Lib.hid r0
        have R1 := Lib.hid r1
        have k0 : (0 : Int) ≤ (k : Int) := by omega
        have ka : (k : Int) < (ps.length : Int) := by omega
        have kb : (k : Int) < (qs.length : Int) := by omega
        clear hx hy r0 r1
        go_wp2_with fail
        apply wp_region_by 10 [(Fact.eq _), (Fact.eq _), (Fact.eq _), (Fact.eq _), (Fact.eq _), (Fact.eq _), (Fact.eq _), (Fact.eq _), (Fact.eq _), (Fact.eq _)]
        case hm => kernel_rfl
        case hB => kernel_rfl
        case hA => (intro vs; simp only [List.take_succ_cons, List.take_zero, putAll, if_true, Act.put, List.setIfInBounds_toArray, List.set_cons_zero, List.set_cons_succ]; exact rfl)
        case hstep =>
          intro vs
          refine And.intro (fun w hw hd => ?_) ?_
          · refine ite_yes rfl ?_
            simp only [Gives]
            go_simp
            exact ⟨Below.refl _ _, rfl, fun h => by cases h⟩
          refine And.intro (fun w hw hd => ?_) ?_
          · refine ite_yes rfl ?_
            simp only [Gives]
            go_simp
            exact ⟨Below.refl _ _, rfl, fun h => by cases h⟩
          refine And.intro (fun w hw hd => ?_) ?_
          · have d0 := hd 0 (by decide) rfl
            change vs 0 = _ at d0
            have d1 := hd 1 (by decide) rfl
            change vs 1 = _ at d1
            refine ite_yes rfl ?_
            simp only [Gives]
            go_simp
            exact ⟨Below.refl _ _, rfl, fun h => by cases h⟩
          refine And.intro (fun w hw hd => ?_) ?_
          · have d2 := hd 2 (by decide) rfl
            change vs 2 = _ at d2
            refine ite_yes rfl ?_
            have p0 := (hw.cell (p := ⟨g, off + k, none⟩) hg).trans q0
            have p1 := (hw.cell (p := ⟨g2, off2 + k, none⟩) hg2).trans q1
            simp only [Gives]
            go_simp
            exact ⟨Below.refl _ _, rfl, fun h => by cases h⟩
          refine And.intro (fun w hw hd => ?_) ?_
          · refine ite_yes rfl ?_
            simp only [Gives]
            go_simp
            exact ⟨Below.refl _ _, rfl, fun h => by cases h⟩
          refine And.intro (fun w hw hd => ?_) ?_
          · refine ite_yes rfl ?_
            simp only [Gives]
            go_simp
            exact ⟨Below.refl _ _, rfl, fun h => by cases h⟩
          refine And.intro (fun w hw hd => ?_) ?_
          · have d4 := hd 4 (by decide) rfl
            change vs 4 = _ at d4
            have d5 := hd 5 (by decide) rfl
            change vs 5 = _ at d5
            refine ite_yes rfl ?_
            simp only [Gives]
            go_simp
            exact ⟨Below.refl _ _, rfl, fun h => by cases h⟩
          refine And.intro (fun w hw hd => ?_) ?_
          · have d6 := hd 6 (by decide) rfl
            change vs 6 = _ at d6
            refine ite_yes rfl ?_
            have p0 := (hw.cell (p := ⟨g, off + k, none⟩) hg).trans q0
            have p1 := (hw.cell (p := ⟨g2, off2 + k, none⟩) hg2).trans q1
            simp only [Gives]
            go_simp
            exact ⟨Below.refl _ _, rfl, fun h => by cases h⟩
          refine And.intro (fun w hw hd => ?_) ?_
          · have d3 := hd 3 (by decide) rfl
            change vs 3 = _ at d3
            have d7 := hd 7 (by decide) rfl
            change vs 7 = _ at d7
            refine ite_yes rfl ?_
            simp only [Gives]
            go_simp
            refine (Same_any _ _ x y w (R0.out.kept hw) (R1.out.kept hw)).mono ?_
            rintro e w1 ⟨rfl, hb⟩
            exact ⟨_, rfl, hb, rfl, fun h => by cases h⟩
          refine And.intro (fun w hw hd => ?_) ?_
          · have d8 := hd 8 (by decide) rfl
            change vs 8 = _ at d8
            refine ite_yes rfl ?_
            simp only [Gives]
            go_simp
            exact ⟨Below.refl _ _, rfl, fun h => by cases h⟩
          exact trivial
        intro vs wt hw hd hne hlo
        have d0 := hd 0 (by decide)
        change vs 0 = _ at d0
        have d1 := hd 1 (by decide)
        change vs 1 = _ at d1
        have d2 := hd 2 (by decide)
        change vs 2 = _ at d2
        have d3 := hd 3 (by decide)
        change vs 3 = _ at d3
        have d4 := hd 4 (by decide)
        change vs 4 = _ at d4
        have d5 := hd 5 (by decide)
        change vs 5 = _ at d5
        have d6 := hd 6 (by decide)
        change vs 6 = _ at d6
        have d7 := hd 7 (by decide)
        change vs 7 = _ at d7
        have d8 := hd 8 (by decide)
        change vs 8 = _ at d8
        have d9 := hd 9 (by decide)
        change vs 9 = _ at d9
        simp only [d0, d1, d2, d3, d4, d5, d6, d7, d8, d9, List.drop_succ_cons, List.drop_nil]
        clear hd hne hlo d0 d1 d2 d3 d4 d5 d6 d7 d8 d9
        have hB := up_later hB hw
        clear hw q0 q1
        by_cases hxy : x = y
        · subst hxy
          have e1 : decide (x = x) = true := decide_eq_true rfl
          rw [e1]
          have HN := Lib.hid (take_next Hx.out Hy.out HT.out)
          go_wp2_with fail
          go_roundw
          case rel => exact ⟨k + 1, by omega, by omega, HN⟩
          case measure => simp [intOf]; omega
        · have e1 : decide (x = y) = false := decide_eq_false hxy
          rw [e1]
          have Hr := Lib.hid (show decide (ps.map (·.2) = qs.map (·.2)) = false from decide_eq_false fun e => by
            have h1 := Hx.out
            rw [e, Hy.out] at h1
            exact hxy (Option.some.inj h1).symm)
          go_wp2_with fail
          go_ret
          exact ⟨ret_bool Hr.out.symm, hB⟩
      · have Hr := Lib.hid (show decide (ps.map (·.2) = qs.map (·.2)) = true from decide_eq_true (take_eq_all (n := k) (by rw [List.length_map]; omega) (by rw [List.length_map]; have := Hne.out; omega) HT.out))
        go_wp2_with fail
        go_ret
        exact ⟨ret_bool Hr.out.symm, hB⟩
  · have Hr := Lib.hid (show decide (ps.map (·.2) = qs.map (·.2)) = false from decide_eq_false fun e => hne (by have := congrArg List.length e; simpa using this))
    have hni : ((ps.length : Int) == (qs.length : Int)) = false := by rw [beq_eq_false_iff_ne]; omega
    clear hne
    go_enter Tryz.func37, Tryz.ntmps37
    go_wp2_with fail
    go_ret
    exact ⟨ret_bool Hr.out.symm, up0⟩
/-! ### The example's code, and awake -/
theorem build_three (W : World) : (Instr.buildSlice 22 3 #[(0, .string ⟨#[46]⟩), (1, .string ⟨#[45]⟩), (2, .string ⟨#[46, 46]⟩)]).run Tryz.prog W = .ok (.slice (some ⟨W.heap.size, 0, none⟩) 3 3) (W.alloc (.cells #[.string ⟨#[46]⟩, .string ⟨#[45]⟩, .string ⟨#[46, 46]⟩] 9)) := by kernel_rfl
theorem lit_rows {α : Type} {w : World} {g t : Nat} {cells : α → List Value} {l : List α} (h : Box w g t (l.flatMap cells).toArray) (hs : ∀ x, (cells x).length = 1) (hl : l.length ≤ 1000) : RowsAt w (.slice (some ⟨g, 0, none⟩) l.length l.length) 1 cells l := by
  have hlen : (l.flatMap cells).length = l.length := by
    clear h hl
    induction l with
    | nil => rfl
    | cons x l ih => rw [List.flatMap_cons, List.length_append, hs, ih, List.length_cons]; omega
  exact rows_of_own (base := 0) ⟨by rw [hlen]; omega, .inr ⟨g, l.length, _, rfl, Nat.zero_le _, h, Nat.le_refl _, by unfold maxLen; omega, by simp only [List.size_toArray]; omega, by simp only [Nat.mul_one]; rw [← hlen]; exact List.take_length⟩⟩ rfl hs hl
def threeL : List ByteArray := [⟨#[46]⟩, ⟨#[45]⟩, ⟨#[46, 46]⟩]
set_option maxRecDepth 100000 in
set_option maxHeartbeats 400000 in
theorem three_any (w : World) : Calls Tryz.prog 44 #[] w fun e w' => ∃ v, e = .returned (.agg #[v]) ∧ RowsAt w' v 1 sc threeL ∧ Below w.heap.size w w' := by
  go_enter Tryz.func44, Tryz.ntmps44
  go_wp2_with fail
  have B1 : Box ((w.alloc (.cells #[.slice (some ⟨w.heap.size + 1, 0, none⟩) 3 3] 30)).alloc (.cells #[.string ⟨#[46]⟩, .string ⟨#[45]⟩, .string ⟨#[46, 46]⟩] 9)) w.heap.size 30 #[.slice (some ⟨w.heap.size + 1, 0, none⟩) 3 3] := (Box.new rfl).alloc _
  exact bodyPost_ret (v := .agg #[.slice (some ⟨w.heap.size + 1, 0, none⟩) 3 3]) (results_cell rfl rfl B1 (d := .struct (Tryz.prog.fieldsOf 30)) (by kernel_rfl) rfl (by kernel_rfl)) rfl ⟨_, rfl, lit_rows (l := threeL) (cells := sc) (Box.new (by simp)) (fun _ => rfl) (by decide), up_alloc (up_alloc up0 _) _⟩
/-- The texts of the example. -/
theorem texts_eq {l : List ByteArray} {R : By} {E K : Nat} {ts : List (List Int)} (ts0 : List (List Int)) (h : IsTexts l R E K ts) (hp : (addF l R E K [] (startN R E)).isPerm ts0 = true) (hs : ts0.Pairwise fun a b => ¬ ordI b a < 0) : ts = ts0 :=
  sorted_unique _ _ (h.1.trans (List.isPerm_iff.1 hp)) h.2 (hs.imp fun h => by rwa [ordI_lt] at h)
theorem aw_send : sendE threeL [1, 0] = 0 ∧ sendS threeL [1, 0] = [45, 32, 46] := by decide +kernel
theorem aw_err : searchE ⟨#[45, 32, 46]⟩ ⟨#[46, 46, 32, 46]⟩ = 0 ∧ errorsN ⟨#[45, 32, 46]⟩ ⟨#[46, 46, 32, 46]⟩ = 1 ∧ explL ⟨#[45, 32, 46]⟩ ⟨#[46, 46, 32, 46]⟩ = [2, 0, 0] := by decide +kernel
theorem aw_textsE : textsE threeL ⟨#[46, 46]⟩ 1 2 = 0 := by decide +kernel
theorem aw_addF : (addF threeL [46, 46] 1 2 [] (startN [46, 46] 1)).isPerm [[1], [2], [0, 0]] = true := by decide +kernel
theorem aw_ord : ([[1], [2], [0, 0]] : List (List Int)).Pairwise fun a b => ¬ ordI b a < 0 := by decide +kernel
theorem short_eq {ts : List (List Int)} {f m : Nat} (h : IsShort ts f m) {f0 m0 : Nat} (h0 : IsShort ts f0 m0) : f = f0 ∧ m = m0 := by
  have hm : m = m0 := by
    rcases Nat.lt_trichotomy m m0 with h1 | h1 | h1
    · have := h0.few m h1 f h.f5
      rw [h.yes] at this
      cases this
    · exact h1
    · have := h.few m0 h1 f0 h0.f5
      rw [h0.yes] at this
      cases this
  subst hm
  refine ⟨?_, rfl⟩
  rcases Nat.lt_trichotomy f f0 with h1 | h1 | h1
  · have := h0.fst f h1
    rw [h.yes] at this
    cases this
  · exact h1
  · have := h.fst f0 h1
    rw [h0.yes] at this
    cases this
theorem aw_short : IsShort [[0, 1, 2], [0, 2, 2], [0, 1]] 1 2 := ⟨by decide, by decide, by decide +kernel, by decide +kernel, by decide +kernel⟩
def psR (g1 g2 g3 : Nat) : List (Value × List Int) := [(.slice (some ⟨g1, 0, none⟩) 3 3, [0, 1, 2]), (.slice (some ⟨g2, 0, none⟩) 3 3, [0, 2, 2]), (.slice (some ⟨g3, 0, none⟩) 2 2, [0, 1])]
theorem aw_txt (g1 g2 g3 : Nat) : txtE (psR g1 g2 g3) = 0 := by
  unfold txtE
  have h1 : (psR g1 g2 g3).all fitB5 = true := by simp [psR, fitB5]
  have h2 : (psR g1 g2 g3).all spellB = true := by simp [psR, spellB, letB]
  have h3 : decB ((psR g1 g2 g3).map (·.2)) 0 5 = true := by
    show decB [[0, 1, 2], [0, 2, 2], [0, 1]] 0 5 = true
    decide +kernel
  rw [if_neg (by rw [h1]; simp [psR]), if_neg (by rw [h2]; simp [psR]), if_neg (by rw [h3]; simp)]
def psS (g1 g2 g3 : Nat) : List (Value × List Int) := [(.slice (some ⟨g1, 0, none⟩) 1 1, [1]), (.slice (some ⟨g2, 0, none⟩) 1 1, [2]), (.slice (some ⟨g3, 0, none⟩) 2 2, [0, 0])]
set_option maxRecDepth 100000 in
set_option maxHeartbeats 2000000 in
theorem awake_any (w : World) : Calls Tryz.prog 19 #[] w fun e w' => e = .returned (.bool true) ∧ Below w.heap.size w w' := by
  have hs := aw_send
  have he := aw_err
  have hsv : (⟨(sendS threeL [1, 0]).toArray⟩ : ByteArray) = ⟨#[45, 32, 46]⟩ := by rw [hs.2]
  have Hs := Lib.hid hs.1
  have Hsv := Lib.hid hsv
  have He := Lib.hid he
  clear hs he hsv
  go_enter Tryz.func19, Tryz.ntmps19
  go_wp2_with fail
  refine (three_any _).mono ?_
  rintro e w1 ⟨v1, rfl, hr1, hb1⟩
  obtain ⟨-, A1, c1, rfl, -, -⟩ := hr1.form
  have HB1 := Lib.hid hb1
  have HR1 := Lib.hid hr1
  clear hb1 hr1
  go_wp2_with fail
  refine (Send_any _ _ threeL [1, 0] _ (rows_any (HR1.out.kept (up_alloc up0 _))) (rows_any (lit_rows (l := [1, 0]) (cells := ic) (Box.new rfl) (fun _ => rfl) (by decide)))).mono ?_
  rintro e w2 ⟨rfl, hb2⟩
  rw [Hs.out, Hsv.out]
  have HB2 := Lib.hid (up_later (up_alloc HB1.out _) hb2)
  clear hb2 HR1 HB1
  go_wp2_with fail
  refine (Errors_any _ _ _).mono ?_
  rintro e w3 ⟨rfl, hb3⟩
  rw [He.out.1, He.out.2.1]
  have HB3 := Lib.hid (up_later HB2.out hb3)
  clear hb3 HB2
  go_wp2_with fail
  refine (Explain_any _ _ _).mono ?_
  rintro e w4 ⟨v4, rfl, ho4, -, hb4⟩
  rw [He.out.1]
  rw [He.out.2.2] at ho4
  obtain ⟨A4, m4, p4, rfl⟩ := own_form ho4
  have HO4 := Lib.hid (show RowsAt w4 (.slice A4 m4 p4) 1 ic [2, 0, 0] from text_rows (B := w3.heap.size) (by simpa using ho4) (by decide))
  have HB4 := Lib.hid (up_later HB3.out hb4)
  clear hb4 HB3 ho4 He
  go_wp2_with fail
  refine (three_any _).mono ?_
  rintro e w5 ⟨v5, rfl, hr5, hb5⟩
  obtain ⟨-, A5, c5, rfl, -, -⟩ := hr5.form
  have HB5 := Lib.hid (up_later HB4.out hb5)
  have HO5 := Lib.hid (HO4.out.kept hb5)
  have HR5 := Lib.hid hr5
  clear hb5 hr5 HB4 HO4
  go_wp2_with fail
  refine (Texts_any _ threeL ⟨#[46, 46]⟩ 1 2 _ (rows_any HR5.out)).mono ?_
  rintro e w6 ⟨u6, ps6, rfl, hT6, hI6, -, hb6⟩
  rw [aw_textsE]
  have hts := texts_eq _ (hI6 aw_textsE) aw_addF aw_ord
  obtain ⟨A6, c6, hu6, -, -⟩ := hT6.1.form
  subst hu6
  have HB6 := Lib.hid (up_later HB5.out hb6)
  have HO6 := Lib.hid (HO5.out.kept hb6)
  have HT6 := Lib.hid hT6
  have Hts := Lib.hid hts
  clear hb6 hT6 hI6 HB5 HO5 HR5 hts
  go_wp2_with fail
  have hb7w := up_alloc (up_alloc (up_alloc (up_alloc (up0 (w := w6)) (.cells #[iv 0, iv 1, iv 2] 3)) (.cells #[iv 0, iv 2, iv 2] 3)) (.cells #[iv 0, iv 1] 3)) (.cells #[.slice (some ⟨w6.heap.size, 0, none⟩) 3 3, .slice (some ⟨w6.heap.size + 1, 0, none⟩) 3 3, .slice (some ⟨w6.heap.size + 1 + 1, 0, none⟩) 2 2] 25)
  refine (Repeat_any _ (psR w6.heap.size (w6.heap.size + 1) (w6.heap.size + 1 + 1)) _ ⟨rows_any (lit_rows (l := psR w6.heap.size (w6.heap.size + 1) (w6.heap.size + 1 + 1)) (cells := pc) (Box.new (by simp)) (fun _ => rfl) (by simp [psR])), fun p hp => ?_⟩).mono ?_
  · simp only [psR, List.mem_cons, List.not_mem_nil, or_false] at hp
    rcases hp with rfl | rfl | rfl
    · exact rows_any (lit_rows (l := [0, 1, 2]) (cells := ic) ((((Box.new rfl).alloc _).alloc _).alloc _) (fun _ => rfl) (by decide))
    · exact rows_any (lit_rows (l := [0, 2, 2]) (cells := ic) (((Box.new (by simp)).alloc _).alloc _) (fun _ => rfl) (by decide))
    · exact rows_any (lit_rows (l := [0, 1]) (cells := ic) ((Box.new (by simp)).alloc _) (fun _ => rfl) (by decide))
  rintro e w7 ⟨f, m, rfl, hsh, -, hb7⟩
  rw [aw_txt]
  obtain ⟨rfl, rfl⟩ := short_eq (hsh (aw_txt _ _ _)) aw_short
  have hb67 := up_later hb7w hb7
  have HB7 := Lib.hid (up_later HB6.out hb67)
  have HO7 := Lib.hid (HO6.out.kept hb67)
  have HT7 := Lib.hid (HT6.out.kept hb67)
  clear hb7 hb67 hb7w hsh HB6 HO6 HT6
  go_wp2_with fail
  refine (Same_any _ _ [2, 0, 0] [2, 0, 0] _ (rows_any (HO7.out.kept (up_alloc up0 _))) (rows_any (lit_rows (l := [2, 0, 0]) (cells := ic) (Box.new rfl) (fun _ => rfl) (by decide)))).mono ?_
  rintro e w8 ⟨rfl, hb8⟩
  have hb78 := up_later (up_alloc up0 _) hb8
  have HB8 := Lib.hid (up_later HB7.out hb78)
  have HT8 := Lib.hid (HT7.out.kept hb78)
  rw [show decide (([2, 0, 0] : List Int) = [2, 0, 0]) = true from rfl]
  clear hb8 hb78 HB7 HO7 HT7
  go_wp2_with fail
  have hb9w := up_alloc (up_alloc (up_alloc (up_alloc (up0 (w := w8)) (.cells #[iv 1] 3)) (.cells #[iv 2] 3)) (.cells #[iv 0, iv 0] 3)) (.cells #[.slice (some ⟨w8.heap.size, 0, none⟩) 1 1, .slice (some ⟨w8.heap.size + 1, 0, none⟩) 1 1, .slice (some ⟨w8.heap.size + 1 + 1, 0, none⟩) 2 2] 25)
  refine (same_any _ _ ps6 (psS w8.heap.size (w8.heap.size + 1) (w8.heap.size + 1 + 1)) _ (HT8.out.kept hb9w) ⟨rows_any (lit_rows (l := psS w8.heap.size (w8.heap.size + 1) (w8.heap.size + 1 + 1)) (cells := pc) (Box.new (by simp)) (fun _ => rfl) (by simp [psS])), fun p hp => ?_⟩).mono ?_
  · simp only [psS, List.mem_cons, List.not_mem_nil, or_false] at hp
    rcases hp with rfl | rfl | rfl
    · exact rows_any (lit_rows (l := [1]) (cells := ic) ((((Box.new rfl).alloc _).alloc _).alloc _) (fun _ => rfl) (by decide))
    · exact rows_any (lit_rows (l := [2]) (cells := ic) (((Box.new (by simp)).alloc _).alloc _) (fun _ => rfl) (by decide))
    · exact rows_any (lit_rows (l := [0, 0]) (cells := ic) ((Box.new (by simp)).alloc _) (fun _ => rfl) (by decide))
  rintro e w9 ⟨rfl, hb9⟩
  have HB9 := Lib.hid (up_later HB8.out (up_later hb9w hb9))
  rw [Hts.out, show decide (([[1], [2], [0, 0]] : List (List Int)) = (psS w8.heap.size (w8.heap.size + 1) (w8.heap.size + 1 + 1)).map (·.2)) = true from rfl]
  clear hb9 hb9w HB8 HT8
  go_wp2_with fail
  go_ret
  exact ⟨by first | rfl | simp, HB9.out⟩
end Go.Proofs.YtonekgefegfapaaGreat
