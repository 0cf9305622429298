/-
  WALKS of the law's before, of changesOf, and of the reference's IsRight. Conditions: keys are small, lists have at most 1000 elements.
-/
import Derived.Test.YtkhfkmfofhnmdaaEj
namespace Go.Proofs.Ytkhfkmfofhnmdaa
open Go.RowKit Go.Shelf
attribute [local go_sem] Oper.semAt_some

theorem before_skip : ∀ (k : Nat) (a b : List Int), a.take k = b.take k → k ≤ a.length → k ≤ b.length → beforeB a b = beforeB (a.drop k) (b.drop k)
  | 0, _, _, _, _, _ => rfl
  | k + 1, [], _, _, h, _ => by simp at h
  | k + 1, _ :: _, [], _, _, h => by simp at h
  | k + 1, x :: a, y :: b, h, h1, h2 => by
    simp only [List.take_succ_cons, List.cons.injEq] at h
    rw [beforeB, if_pos h.1, List.drop_succ_cons, List.drop_succ_cons]
    exact before_skip k a b h.2 (by simpa using h1) (by simpa using h2)
set_option maxRecDepth 100000 in
set_option maxHeartbeats 1000000 in
theorem Lbefore_any (v u : Value) (l m : List Int) (w : World) (hl : IntsAt w v l) (hm : IntsAt w u m) :
    Calls Try.prog 51 #[v, u] w fun e w' => e = .returned (.bool (beforeB l m)) ∧ Below w.heap.size w w' := by
  obtain ⟨h1, A1, c1, rfl, _, _⟩ := hl.form
  obtain ⟨h2, A2, c2, rfl, _, _⟩ := hm.form
  have HL := Lib.hid hl
  have HM := Lib.hid hm
  clear hl hm
  go_enter Try.func51, Try.ntmps51
  go_wp2_with fail
  go_loopw [5] (fun i wr => ∃ k : Nat, k ≤ l.length ∧ k ≤ m.length ∧ i = .int .i64 k ∧ Hid (l.take k = m.take k) ∧ Hid (Below w.heap.size w wr)) (fun i _ => l.length - (intOf i).toNat)
  case atStart => exact ⟨0, by omega, by omega, rfl, Lib.hid rfl, up0⟩
  case round =>
    obtain ⟨k, hk, hk2, rfl, HE, HB⟩ := hrel
    have k0 : (0 : Int) ≤ (k : Int) := by omega
    by_cases hlt : k < l.length
    · have k1 : (k : Int) < (l.length : Int) := by omega
      by_cases hlt2 : k < m.length
      · have k2 : (k : Int) < (m.length : Int) := by omega
        obtain ⟨x, hx⟩ : ∃ x, l[k]? = some x := ⟨_, List.getElem?_eq_getElem hlt⟩
        obtain ⟨y, hy⟩ : ∃ y, m[k]? = some y := ⟨_, List.getElem?_eq_getElem hlt2⟩
        have HR := Lib.hid (HL.out.kept HB.out)
        have HS := Lib.hid (HM.out.kept HB.out)
        obtain ⟨b1, o1, rfl, _, _⟩ := HR.out.at rfl hx
        obtain ⟨b2, o2, rfl, _, _⟩ := HS.out.at rfl hy
        have Hx := Lib.hid hx
        have Hy := Lib.hid hy
        clear hx hy
        by_cases hxy : x = y
        · have e1 : (x == y) = true := by rw [beq_iff_eq]; exact hxy
          have Hxy := Lib.hid hxy
          clear hxy
          go_wp2_with fail
          apply wp_region_by 9 [(Fact.eq _), (Fact.eq _), (Fact.eq _), (Fact.eq _), (Fact.eq _), (Fact.eq _), (Fact.eq _), (Fact.eq _), (Fact.eq _)]
          case hm => kernel_rfl
          case hB => kernel_rfl
          case hA => (intro vs; simp only [List.take_succ_cons, List.take_zero, putAll, if_true, Act.put, List.setIfInBounds_toArray, List.set_cons_zero, List.set_cons_succ]; exact rfl)
          case hstep =>
            intro vs
            refine And.intro (fun w hw hd => ?_) ?_
            · refine ite_yes rfl ?_
              simp only [Gives]
              go_simp
              exact ⟨Below.refl _ _, rfl, fun h => by cases h⟩
            refine And.intro (fun w hw hd => ?_) ?_
            · refine ite_yes rfl ?_
              simp only [Gives]
              go_simp
              exact ⟨Below.refl _ _, rfl, fun h => by cases h⟩
            refine And.intro (fun w hw hd => ?_) ?_
            · have d0 := hd 0 (by decide) rfl
              change vs 0 = _ at d0
              have d1 := hd 1 (by decide) rfl
              change vs 1 = _ at d1
              refine ite_yes rfl ?_
              simp only [Gives]
              go_simp
              exact ⟨Below.refl _ _, rfl, fun h => by cases h⟩
            refine And.intro (fun w hw hd => ?_) ?_
            · have d2 := hd 2 (by decide) rfl
              change vs 2 = _ at d2
              refine ite_yes rfl ?_
              have q0 : w.cell? ⟨b1, o1 + k, none⟩ = some (.int .i64 x) := by simpa using (HR.out.kept hw).cellAt Hx.out (j := 0) rfl
              have q1 : w.cell? ⟨b2, o2 + k, none⟩ = some (.int .i64 y) := by simpa using (HS.out.kept hw).cellAt Hy.out (j := 0) rfl
              simp only [Gives]
              go_simp
              exact ⟨Below.refl _ _, rfl, fun h => by cases h⟩
            refine And.intro (fun w hw hd => ?_) ?_
            · refine ite_yes rfl ?_
              simp only [Gives]
              go_simp
              exact ⟨Below.refl _ _, rfl, fun h => by cases h⟩
            refine And.intro (fun w hw hd => ?_) ?_
            · refine ite_yes rfl ?_
              simp only [Gives]
              go_simp
              exact ⟨Below.refl _ _, rfl, fun h => by cases h⟩
            refine And.intro (fun w hw hd => ?_) ?_
            · have d4 := hd 4 (by decide) rfl
              change vs 4 = _ at d4
              have d5 := hd 5 (by decide) rfl
              change vs 5 = _ at d5
              refine ite_yes rfl ?_
              simp only [Gives]
              go_simp
              exact ⟨Below.refl _ _, rfl, fun h => by cases h⟩
            refine And.intro (fun w hw hd => ?_) ?_
            · have d6 := hd 6 (by decide) rfl
              change vs 6 = _ at d6
              refine ite_yes rfl ?_
              have q0 : w.cell? ⟨b1, o1 + k, none⟩ = some (.int .i64 x) := by simpa using (HR.out.kept hw).cellAt Hx.out (j := 0) rfl
              have q1 : w.cell? ⟨b2, o2 + k, none⟩ = some (.int .i64 y) := by simpa using (HS.out.kept hw).cellAt Hy.out (j := 0) rfl
              simp only [Gives]
              go_simp
              exact ⟨Below.refl _ _, rfl, fun h => by cases h⟩
            refine And.intro (fun w hw hd => ?_) ?_
            · have d3 := hd 3 (by decide) rfl
              change vs 3 = _ at d3
              have d7 := hd 7 (by decide) rfl
              change vs 7 = _ at d7
              refine ite_yes rfl ?_
              simp only [Gives]
              go_simp
              exact ⟨Below.refl _ _, rfl, fun h => by cases h⟩
            exact trivial
          intro vs wt hw hd hne hlo
          have d0 := hd 0 (by decide)
          change vs 0 = _ at d0
          have d1 := hd 1 (by decide)
          change vs 1 = _ at d1
          have d2 := hd 2 (by decide)
          change vs 2 = _ at d2
          have d3 := hd 3 (by decide)
          change vs 3 = _ at d3
          have d4 := hd 4 (by decide)
          change vs 4 = _ at d4
          have d5 := hd 5 (by decide)
          change vs 5 = _ at d5
          have d6 := hd 6 (by decide)
          change vs 6 = _ at d6
          have d7 := hd 7 (by decide)
          change vs 7 = _ at d7
          have d8 := hd 8 (by decide)
          change vs 8 = _ at d8
          simp only [d0, d1, d2, d3, d4, d5, d6, d7, d8, List.drop_succ_cons, List.drop_nil]
          clear hd hne hlo d0 d1 d2 d3 d4 d5 d6 d7 d8
          go_wp2_with fail
          go_roundw
          case rel => exact ⟨k + 1, by omega, by omega, by go_num, Lib.hid (take_succ_eq HE.out Hx.out (by rw [Hxy.out]; exact Hy.out)), up_later HB.out hw⟩
          case measure => simp [intOf]; omega
        · have e1 : (x == y) = false := by rw [beq_eq_false_iff_ne]; exact hxy
          have Hr := Lib.hid (show beforeB l m = decide (x < y) by
            rw [before_skip k l m HE.out hk hk2, List.drop_eq_getElem_cons hlt, List.drop_eq_getElem_cons hlt2]
            have g1 := (List.getElem?_eq_some_iff.1 Hx.out).2
            have g2 := (List.getElem?_eq_some_iff.1 Hy.out).2
            rw [g1, g2, beforeB, if_neg hxy])
          clear hxy
          go_wp2_with fail
          apply wp_region_by 9 [(Fact.eq _), (Fact.eq _), (Fact.eq _), (Fact.eq _), (Fact.eq _), (Fact.eq _), (Fact.eq _), (Fact.eq _), (Fact.eq _)]
          case hm => kernel_rfl
          case hB => kernel_rfl
          case hA => (intro vs; simp only [List.take_succ_cons, List.take_zero, putAll, if_true, Act.put, List.setIfInBounds_toArray, List.set_cons_zero, List.set_cons_succ]; exact rfl)
          case hstep =>
            intro vs
            refine And.intro (fun w hw hd => ?_) ?_
            · refine ite_yes rfl ?_
              simp only [Gives]
              go_simp
              exact ⟨Below.refl _ _, rfl, fun h => by cases h⟩
            refine And.intro (fun w hw hd => ?_) ?_
            · refine ite_yes rfl ?_
              simp only [Gives]
              go_simp
              exact ⟨Below.refl _ _, rfl, fun h => by cases h⟩
            refine And.intro (fun w hw hd => ?_) ?_
            · have d0 := hd 0 (by decide) rfl
              change vs 0 = _ at d0
              have d1 := hd 1 (by decide) rfl
              change vs 1 = _ at d1
              refine ite_yes rfl ?_
              simp only [Gives]
              go_simp
              exact ⟨Below.refl _ _, rfl, fun h => by cases h⟩
            refine And.intro (fun w hw hd => ?_) ?_
            · have d2 := hd 2 (by decide) rfl
              change vs 2 = _ at d2
              refine ite_yes rfl ?_
              have q0 : w.cell? ⟨b1, o1 + k, none⟩ = some (.int .i64 x) := by simpa using (HR.out.kept hw).cellAt Hx.out (j := 0) rfl
              have q1 : w.cell? ⟨b2, o2 + k, none⟩ = some (.int .i64 y) := by simpa using (HS.out.kept hw).cellAt Hy.out (j := 0) rfl
              simp only [Gives]
              go_simp
              exact ⟨Below.refl _ _, rfl, fun h => by cases h⟩
            refine And.intro (fun w hw hd => ?_) ?_
            · refine ite_yes rfl ?_
              simp only [Gives]
              go_simp
              exact ⟨Below.refl _ _, rfl, fun h => by cases h⟩
            refine And.intro (fun w hw hd => ?_) ?_
            · refine ite_yes rfl ?_
              simp only [Gives]
              go_simp
              exact ⟨Below.refl _ _, rfl, fun h => by cases h⟩
            refine And.intro (fun w hw hd => ?_) ?_
            · have d4 := hd 4 (by decide) rfl
              change vs 4 = _ at d4
              have d5 := hd 5 (by decide) rfl
              change vs 5 = _ at d5
              refine ite_yes rfl ?_
              simp only [Gives]
              go_simp
              exact ⟨Below.refl _ _, rfl, fun h => by cases h⟩
            refine And.intro (fun w hw hd => ?_) ?_
            · have d6 := hd 6 (by decide) rfl
              change vs 6 = _ at d6
              refine ite_yes rfl ?_
              have q0 : w.cell? ⟨b1, o1 + k, none⟩ = some (.int .i64 x) := by simpa using (HR.out.kept hw).cellAt Hx.out (j := 0) rfl
              have q1 : w.cell? ⟨b2, o2 + k, none⟩ = some (.int .i64 y) := by simpa using (HS.out.kept hw).cellAt Hy.out (j := 0) rfl
              simp only [Gives]
              go_simp
              exact ⟨Below.refl _ _, rfl, fun h => by cases h⟩
            refine And.intro (fun w hw hd => ?_) ?_
            · have d3 := hd 3 (by decide) rfl
              change vs 3 = _ at d3
              have d7 := hd 7 (by decide) rfl
              change vs 7 = _ at d7
              refine ite_yes rfl ?_
              simp only [Gives]
              go_simp
              exact ⟨Below.refl _ _, rfl, fun h => by cases h⟩
            exact trivial
          intro vs wt hw hd hne hlo
          have d0 := hd 0 (by decide)
          change vs 0 = _ at d0
          have d1 := hd 1 (by decide)
          change vs 1 = _ at d1
          have d2 := hd 2 (by decide)
          change vs 2 = _ at d2
          have d3 := hd 3 (by decide)
          change vs 3 = _ at d3
          have d4 := hd 4 (by decide)
          change vs 4 = _ at d4
          have d5 := hd 5 (by decide)
          change vs 5 = _ at d5
          have d6 := hd 6 (by decide)
          change vs 6 = _ at d6
          have d7 := hd 7 (by decide)
          change vs 7 = _ at d7
          have d8 := hd 8 (by decide)
          change vs 8 = _ at d8
          simp only [d0, d1, d2, d3, d4, d5, d6, d7, d8, List.drop_succ_cons, List.drop_nil]
          clear hd hne hlo d0 d1 d2 d3 d4 d5 d6 d7 d8
          go_wp2_with fail
          have HR2 := Lib.hid (HR.out.kept hw)
          have HS2 := Lib.hid (HS.out.kept hw)
          have HB2 := Lib.hid (up_later HB.out hw)
          clear hw
          apply wp_region_by 10 [(Fact.eq _), (Fact.eq _), (Fact.eq _), (Fact.eq _), (Fact.eq _), (Fact.eq _), (Fact.eq _), (Fact.eq _), (Fact.eq _), (Fact.eq _)]
          case hm => kernel_rfl
          case hB => kernel_rfl
          case hA => (intro vs; simp only [List.take_succ_cons, List.take_zero, putAll, if_true, Act.put, List.setIfInBounds_toArray, List.set_cons_zero, List.set_cons_succ]; exact rfl)
          case hstep =>
            intro vs
            refine And.intro (fun w hw hd => ?_) ?_
            · refine ite_yes rfl ?_
              simp only [Gives]
              go_simp
              exact ⟨Below.refl _ _, rfl, fun h => by cases h⟩
            refine And.intro (fun w hw hd => ?_) ?_
            · refine ite_yes rfl ?_
              simp only [Gives]
              go_simp
              exact ⟨Below.refl _ _, rfl, fun h => by cases h⟩
            refine And.intro (fun w hw hd => ?_) ?_
            · have d0 := hd 0 (by decide) rfl
              change vs 0 = _ at d0
              have d1 := hd 1 (by decide) rfl
              change vs 1 = _ at d1
              refine ite_yes rfl ?_
              simp only [Gives]
              go_simp
              exact ⟨Below.refl _ _, rfl, fun h => by cases h⟩
            refine And.intro (fun w hw hd => ?_) ?_
            · have d2 := hd 2 (by decide) rfl
              change vs 2 = _ at d2
              refine ite_yes rfl ?_
              have q0 : w.cell? ⟨b1, o1 + k, none⟩ = some (.int .i64 x) := by simpa using (HR2.out.kept hw).cellAt Hx.out (j := 0) rfl
              have q1 : w.cell? ⟨b2, o2 + k, none⟩ = some (.int .i64 y) := by simpa using (HS2.out.kept hw).cellAt Hy.out (j := 0) rfl
              simp only [Gives]
              go_simp
              exact ⟨Below.refl _ _, rfl, fun h => by cases h⟩
            refine And.intro (fun w hw hd => ?_) ?_
            · refine ite_yes rfl ?_
              simp only [Gives]
              go_simp
              exact ⟨Below.refl _ _, rfl, fun h => by cases h⟩
            refine And.intro (fun w hw hd => ?_) ?_
            · refine ite_yes rfl ?_
              simp only [Gives]
              go_simp
              exact ⟨Below.refl _ _, rfl, fun h => by cases h⟩
            refine And.intro (fun w hw hd => ?_) ?_
            · have d4 := hd 4 (by decide) rfl
              change vs 4 = _ at d4
              have d5 := hd 5 (by decide) rfl
              change vs 5 = _ at d5
              refine ite_yes rfl ?_
              simp only [Gives]
              go_simp
              exact ⟨Below.refl _ _, rfl, fun h => by cases h⟩
            refine And.intro (fun w hw hd => ?_) ?_
            · have d6 := hd 6 (by decide) rfl
              change vs 6 = _ at d6
              refine ite_yes rfl ?_
              have q0 : w.cell? ⟨b1, o1 + k, none⟩ = some (.int .i64 x) := by simpa using (HR2.out.kept hw).cellAt Hx.out (j := 0) rfl
              have q1 : w.cell? ⟨b2, o2 + k, none⟩ = some (.int .i64 y) := by simpa using (HS2.out.kept hw).cellAt Hy.out (j := 0) rfl
              simp only [Gives]
              go_simp
              exact ⟨Below.refl _ _, rfl, fun h => by cases h⟩
            refine And.intro (fun w hw hd => ?_) ?_
            · have d3 := hd 3 (by decide) rfl
              change vs 3 = _ at d3
              have d7 := hd 7 (by decide) rfl
              change vs 7 = _ at d7
              refine ite_yes rfl ?_
              simp only [Gives]
              go_simp
              exact ⟨Below.refl _ _, rfl, fun h => by cases h⟩
            refine And.intro (fun w hw hd => ?_) ?_
            · have d8 := hd 8 (by decide) rfl
              change vs 8 = _ at d8
              refine ite_yes rfl ?_
              simp only [Gives]
              go_simp
              exact ⟨Below.refl _ _, rfl, fun h => by cases h⟩
            exact trivial
          intro vs wt hw hd hne hlo
          have d0 := hd 0 (by decide)
          change vs 0 = _ at d0
          have d1 := hd 1 (by decide)
          change vs 1 = _ at d1
          have d2 := hd 2 (by decide)
          change vs 2 = _ at d2
          have d3 := hd 3 (by decide)
          change vs 3 = _ at d3
          have d4 := hd 4 (by decide)
          change vs 4 = _ at d4
          have d5 := hd 5 (by decide)
          change vs 5 = _ at d5
          have d6 := hd 6 (by decide)
          change vs 6 = _ at d6
          have d7 := hd 7 (by decide)
          change vs 7 = _ at d7
          have d8 := hd 8 (by decide)
          change vs 8 = _ at d8
          have d9 := hd 9 (by decide)
          change vs 9 = _ at d9
          simp only [d0, d1, d2, d3, d4, d5, d6, d7, d8, d9, List.drop_succ_cons, List.drop_nil]
          clear hd hne hlo d0 d1 d2 d3 d4 d5 d6 d7 d8 d9
          go_wp2_with fail
          go_ret
          exact ⟨by rw [Hr.out]; rfl, up_later HB2.out hw⟩
      · have k2 : ¬ (k : Int) < (m.length : Int) := by omega
        have k3 : ¬ (l.length : Int) < (m.length : Int) := by omega
        have Hr := Lib.hid (show beforeB l m = false by
          rw [before_skip k l m HE.out hk hk2, List.drop_eq_getElem_cons hlt, show m.drop k = [] from List.drop_eq_nil_of_le (by omega)]
          rfl)
        go_wp2_with fail
        go_ret
        exact ⟨by rw [Hr.out]; simp [go_sem], HB.out⟩
    · have k1 : ¬ (k : Int) < (l.length : Int) := by omega
      have Hr := Lib.hid (show beforeB l m = decide (l.length < m.length) by
        rw [before_skip k l m HE.out hk hk2, List.drop_eq_nil_of_le (by omega), beforeB, decide_eq_decide, List.length_drop]
        omega)
      go_wp2_with fail
      go_ret
      exact ⟨by rw [Hr.out]; rfl, HB.out⟩

def eveAt (x : Eve) : List Nat → Eve
  | [] => x
  | k :: p => eveAt (x.next k) p
theorem eveAt_append : ∀ (x : Eve) (p : List Nat) (k : Nat), eveAt x (p ++ [k]) = (eveAt x p).next k
  | _, [], _ => rfl
  | x, a :: p, k => by rw [List.cons_append, eveAt, eveAt, eveAt_append]
theorem cost_append : ∀ (x : Eve) (p : List Nat) (k : Nat), costP x (p ++ [k]) = costP x p + changeI (eveAt x p) k
  | _, [], _ => by simp [costP, eveAt]
  | x, a :: p, k => by
    rw [List.cons_append, costP, costP, eveAt, cost_append (x.next a) p k]
    omega
theorem eveAt_ok {n : Nat} : ∀ (p : List Nat) (x : Eve) (r : Nat), EvOK n (r + p.length) x → EvOK n r (eveAt x p)
  | [], x, r, h => h
  | k :: p, x, r, h => by
    refine eveAt_ok p (x.next k) r (EvOK.next ?_ k)
    rw [List.length_cons] at h
    rw [show r + p.length + 1 = r + (p.length + 1) by omega]
    exact h
theorem eve0_ok : EvOK 8 8 eve0 := by
  refine ⟨?_, ?_, ?_, ?_, ?_, ?_, ?_, ?_⟩ <;> simp [eve0]
set_option maxRecDepth 100000 in
set_option maxHeartbeats 1500000 in
theorem changesOf_any (v : Value) (p : List Nat) (w : World) (hl : IntsAt w v (p.map fun k : Nat => (k : Int))) (hk5 : ∀ k ∈ p, k < 5) (h8 : p.length ≤ 8) :
    Calls Try.prog 74 #[v] w fun r w' => r = .returned (iv (costP eve0 p)) ∧ Below w.heap.size w w' := by
  obtain ⟨l, hle⟩ : ∃ l, (p.map fun k : Nat => (k : Int)) = l := ⟨_, rfl⟩
  have hll : l.length = p.length := by rw [← hle, List.length_map]
  rw [hle] at hl
  have HAt := Lib.hid (show ∀ (i k : Nat), p[i]? = some k → l[i]? = some (k : Int) from fun i k h => by rw [← hle, List.getElem?_map, h]; rfl)
  obtain ⟨hlen, A, cap, rfl, _, _⟩ := hl.form
  have HL := Lib.hid hl
  have HK := Lib.hid hk5
  have Hll := Lib.hid hll
  clear hl hk5 hle hll
  go_enter Try.func74, Try.ntmps74
  go_wp2_with fail
  go_loopw [3, 10] (fun n i wr => ∃ k : Nat, k ≤ p.length ∧ i = .int .i64 k ∧ n = .int .i64 (costP eve0 (p.take k)) ∧ Hid (Box wr w.heap.size 147 (eveAt eve0 (p.take k)).cells) ∧ Hid (Below w.heap.size w wr)) (fun _ i _ => p.length - (intOf i).toNat)
  case atStart => exact ⟨0, by omega, rfl, rfl, Box.new rfl, up_alloc up0 _⟩
  case round =>
    obtain ⟨k, hk, rfl, rfl, B1, HB⟩ := hrel
    have k0 : (0 : Int) ≤ (k : Int) := by omega
    by_cases hlt : k < p.length
    · obtain ⟨q, hq⟩ : ∃ q, p[k]? = some q := ⟨_, List.getElem?_eq_getElem hlt⟩
      have hx := HAt.out k q hq
      have HR := Lib.hid (HL.out.kept HB.out)
      obtain ⟨b1, o1, rfl, _, _⟩ := HR.out.at rfl hx
      have q0 : wr.cell? ⟨b1, o1 + k, none⟩ = some (.int .i64 (q : Int)) := by simpa using HR.out.cellAt hx (j := 0) rfl
      have hk1 : k < l.length := by rw [Hll.out]; exact hlt
      have k1 : (k : Int) < (l.length : Int) := by omega
      have hq5 := HK.out q (List.mem_of_getElem? hq)
      have hev := eveAt_ok (n := 8) (p.take k) eve0 (8 - k) (by rw [List.length_take, show 8 - k + min k p.length = 8 by omega]; exact eve0_ok)
      obtain ⟨x, hxe⟩ : ∃ x, eveAt eve0 (p.take k) = x := ⟨_, rfl⟩
      have hnext : eveAt eve0 (p.take (k + 1)) = x.next q := by
        have e : p.take (k + 1) = p.take k ++ [q] := by rw [List.take_add_one, hq]; rfl
        rw [e, eveAt_append, hxe]
      have hcost : costP eve0 (p.take (k + 1)) = costP eve0 (p.take k) + changeI x q := by
        have e : p.take (k + 1) = p.take k ++ [q] := by rw [List.take_add_one, hq]; rfl
        rw [e, cost_append, hxe]
      have hcl := cost_le (p.take k) eve0
      rw [List.length_take] at hcl
      have hci := changeI_in x q
      rw [hxe] at B1 hev
      have hx' := hx
      have HEv := Lib.hid (show EvOK 8 ((8 - k - 1) + 1) x by rw [show 8 - k - 1 + 1 = 8 - k by omega]; exact hev)
      obtain ⟨S, hS⟩ : ∃ S, costP eve0 (p.take k) = S := ⟨_, rfl⟩
      obtain ⟨d, hd⟩ : ∃ d, changeI x (q : Int) = d := ⟨_, rfl⟩
      obtain ⟨y, hy⟩ : ∃ y, x.next q = y := ⟨_, rfl⟩
      rw [hS] at hcl hcost ⊢
      rw [hd] at hcost hci
      rw [hy] at hnext
      have hW : IntKind.i64.wrap (S + d) = S + d := wrapK_in _ 3000 (by omega) (by omega)
      have Hnext := Lib.hid hnext
      have Hcost := Lib.hid hcost
      have Hd := Lib.hid hd
      have Hy := Lib.hid hy
      have N : Box wr w.heap.size 147 #[iv x.day, iv x.last, iv x.a, iv x.b, iv x.c, iv x.d, iv x.e] := B1.out
      have cN := fun i => N.cell i
      clear hx hx' hq hev hxe hnext hcost hS hd hy
      go_wp2_with fail
      clear cN q0
      have hct := changesTo_any x (q : Int) wr
      rw [Hd.out] at hct
      unfold Eve.val Eve.cells at hct
      refine hct.mono ?_
      rintro e w1 ⟨rfl, hb⟩
      have HB := Lib.hid (up_later HB.out hb)
      have N := N.kept hb
      have cN := fun i => N.cell i
      clear hb hct
      go_wp2_with fail
      clear cN
      have hwt := with_any 8 (8 - k - 1) x q w1 HEv.out hq5
      rw [Hy.out] at hwt
      unfold Eve.val Eve.cells at hwt
      refine hwt.mono ?_
      rintro e w2 ⟨rfl, hb⟩
      have HB := Lib.hid (up_later HB.out hb)
      have N := N.kept hb
      have cN := fun i => N.cell i
      have fN := fun i => N.free i
      have lN := N.lt
      clear hb hwt
      go_wp2_with fail
      have HN := Lib.hid (Box.put7 (u0 := iv y.day) (u1 := iv y.last) (u2 := iv y.a) (u3 := iv y.b) (u4 := iv y.c) (u5 := iv y.d) (u6 := iv y.e) N)
      have HB := Lib.hid (up_put7 HB.out (b := w.heap.size) (Nat.le_refl _) (iv y.day) (iv y.last) (iv y.a) (iv y.b) (iv y.c) (iv y.d) (iv y.e))
      clear cN fN lN N
      go_roundw
      case rel => exact ⟨k + 1, by omega, by go_num, by rw [Hcost.out], by rw [Hnext.out]; exact HN.out, HB.out⟩
      case measure => simp [intOf]; omega
    · have hk' : k = p.length := by omega
      subst hk'
      have k1 : ¬ ((p.length : Int) < (l.length : Int)) := by rw [Hll.out]; omega
      go_wp2_with fail
      go_ret
      exact ⟨ret_int rfl, HB.out⟩
end Go.Proofs.Ytkhfkmfofhnmdaa
