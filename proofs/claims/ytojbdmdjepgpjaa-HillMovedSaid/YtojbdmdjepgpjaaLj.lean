/-
  WALK of CheckLand: the error of a land. Conditions: lists have at most 1000 elements.
-/
import Derived.Test.YtojbdmdjepgpjaaLg
import Derived.Test.YtojbdmdjepgpjaaLh
import Derived.Test.YtojbdmdjepgpjaaLi
namespace Go.Proofs.Ytojbdmdjepgpjaa
open Go.RowKit

theorem valid_any (v1 v2 v3 v4 : Value) (L : Ld) (c : List (Value × List Cl)) (w : World) (hL : LandAt w v1 v2 v3 v4 L c) :
    Calls Try.prog 44 #[.agg #[v1, v2, v3, v4]] w fun e w' => e = .returned (.bool (validB L)) ∧ Below w.heap.size w w' := by
  by_cases h1 : 0 < L.st.length
  · by_cases h2 : 0 < c.length
    · by_cases h3 : 0 < L.sn.length
      · cases h4 : L.st.all stB with
        | false => exact valid_3 v1 v2 v3 v4 L c w hL h1 h2 h3 h4
        | true =>
          cases h5 : apartB L.st with
          | false => exact valid_4 v1 v2 v3 v4 L c w hL h1 h2 h3 h4 h5
          | true =>
            cases h6 : L.rg.all rgB with
            | false => exact valid_5 v1 v2 v3 v4 L c w hL h1 h2 h3 h4 h5 h6
            | true =>
              cases h7 : (c.all fun x => x.2.all (clB ((L.sn.length : Int) - 1))) with
              | false => exact valid_6 v1 v2 v3 v4 L c w hL h1 h2 h3 h4 h5 h6 h7
              | true => exact valid_7 v1 v2 v3 v4 L c w hL h1 h2 h3 h4 h5 h6 h7
      · exact valid_2 v1 v2 v3 v4 L c w hL h1 h2 h3
    · exact valid_1 v1 v2 v3 v4 L c w hL h1 h2
  · exact valid_0 v1 v2 v3 v4 L c w hL h1

/-- The error of a land: 3, 1, or 0 for none. -/
def errI (L : Ld) : Int := if exB L then 3 else if validB L then 0 else 1

set_option maxRecDepth 100000 in
set_option maxHeartbeats 2000000 in
theorem CheckLand_any (v1 v2 v3 v4 : Value) (L : Ld) (c : List (Value × List Cl)) (w : World) (hL : LandAt w v1 v2 v3 v4 L c) :
    Calls Try.prog 17 #[.agg #[v1, v2, v3, v4]] w fun e w' => e = .returned (.int .i64 (errI L)) ∧ Below w.heap.size w w' := by
  have hB : Below w.heap.size w w := up0
  have HL := Lib.hid hL
  obtain ⟨_, A1, cap1, rfl, _, _⟩ := hL.st.form
  obtain ⟨_, A2, cap2, rfl, _, _⟩ := hL.rg.form
  obtain ⟨_, A3, cap3, rfl, _, _⟩ := hL.cs.form
  obtain ⟨_, A4, cap4, rfl, _, _⟩ := hL.sn.form
  clear hL
  cases h1 : exB L with
  | true =>
    have hfin : errI L = 3 := by unfold errI; rw [h1]; rfl
    have Hfin := Lib.hid hfin
    clear hfin
    go_enter Try.func17, Try.ntmps17
    go_wp2_with (go_at_call 43; refine (exceeds_any _ _ _ _ L c _ (HL.out.kept (by repeat (first | exact hB | refine up_alloc ?_ _)))).mono ?_; rintro e w1 ⟨rfl, hb1⟩; obtain ⟨hc1, hf1⟩ := bcell hb1; have hz9 := hb1.size; have hl9 : ∀ b, b < _ → b < w1.heap.size := (fun b h => Nat.lt_of_lt_of_le h hz9); have hz0 := hz9; clear hz9; (try simp at hz0); have hz1 : w.heap.size + 1 ≤ w1.heap.size := (by omega);  clear hz0; have hl0 : w.heap.size < w1.heap.size := (by omega); have hB : Below w.heap.size w w1 := up_later (by repeat (first | exact hB | refine up_alloc ?_ _ | refine up_drew ?_ | refine up_put ?_ (by simp; omega) _)) hb1)
    go_ret
    exact ⟨ret_int Hfin.out.symm, hB⟩
  | false =>
    cases h2 : validB L with
    | true =>
      have hfin : errI L = 0 := by unfold errI; rw [h1, h2]; rfl
      have Hfin := Lib.hid hfin
      clear hfin
      go_enter Try.func17, Try.ntmps17
      go_wp2_with (first | (go_at_call 43; refine (exceeds_any _ _ _ _ L c _ (HL.out.kept (by repeat (first | exact hB | refine up_alloc ?_ _)))).mono ?_; rintro e w1 ⟨rfl, hb1⟩; obtain ⟨hc1, hf1⟩ := bcell hb1; have hz9 := hb1.size; have hl9 : ∀ b, b < _ → b < w1.heap.size := (fun b h => Nat.lt_of_lt_of_le h hz9); have hz0 := hz9; clear hz9; (try simp at hz0); have hz1 : w.heap.size + 1 ≤ w1.heap.size := (by omega);  clear hz0; have hl0 : w.heap.size < w1.heap.size := (by omega); have hB : Below w.heap.size w w1 := up_later (by repeat (first | exact hB | refine up_alloc ?_ _ | refine up_drew ?_ | refine up_put ?_ (by simp; omega) _)) hb1) | (go_at_call 44; refine (valid_any _ _ _ _ L c _ (HL.out.kept (by repeat (first | exact hB | refine up_alloc ?_ _)))).mono ?_; rintro e w1 ⟨rfl, hb1⟩; obtain ⟨hc1, hf1⟩ := bcell hb1; have hz9 := hb1.size; have hl9 : ∀ b, b < _ → b < w1.heap.size := (fun b h => Nat.lt_of_lt_of_le h hz9); have hz0 := hz9; clear hz9; (try simp at hz0); have hz1 : w.heap.size + 1 ≤ w1.heap.size := (by omega);  clear hz0; have hl0 : w.heap.size < w1.heap.size := (by omega); have hB : Below w.heap.size w w1 := up_later (by repeat (first | exact hB | refine up_alloc ?_ _ | refine up_drew ?_ | refine up_put ?_ (by simp; omega) _)) hb1))
      go_ret
      exact ⟨ret_int Hfin.out.symm, hB⟩
    | false =>
      have hfin : errI L = 1 := by unfold errI; rw [h1, h2]; rfl
      have Hfin := Lib.hid hfin
      clear hfin
      go_enter Try.func17, Try.ntmps17
      go_wp2_with (first | (go_at_call 43; refine (exceeds_any _ _ _ _ L c _ (HL.out.kept (by repeat (first | exact hB | refine up_alloc ?_ _)))).mono ?_; rintro e w1 ⟨rfl, hb1⟩; obtain ⟨hc1, hf1⟩ := bcell hb1; have hz9 := hb1.size; have hl9 : ∀ b, b < _ → b < w1.heap.size := (fun b h => Nat.lt_of_lt_of_le h hz9); have hz0 := hz9; clear hz9; (try simp at hz0); have hz1 : w.heap.size + 1 ≤ w1.heap.size := (by omega);  clear hz0; have hl0 : w.heap.size < w1.heap.size := (by omega); have hB : Below w.heap.size w w1 := up_later (by repeat (first | exact hB | refine up_alloc ?_ _ | refine up_drew ?_ | refine up_put ?_ (by simp; omega) _)) hb1) | (go_at_call 44; refine (valid_any _ _ _ _ L c _ (HL.out.kept (by repeat (first | exact hB | refine up_alloc ?_ _)))).mono ?_; rintro e w1 ⟨rfl, hb1⟩; obtain ⟨hc1, hf1⟩ := bcell hb1; have hz9 := hb1.size; have hl9 : ∀ b, b < _ → b < w1.heap.size := (fun b h => Nat.lt_of_lt_of_le h hz9); have hz0 := hz9; clear hz9; (try simp at hz0); have hz1 : w.heap.size + 1 ≤ w1.heap.size := (by omega);  clear hz0; have hl0 : w.heap.size < w1.heap.size := (by omega); have hB : Below w.heap.size w w1 := up_later (by repeat (first | exact hB | refine up_alloc ?_ _ | refine up_drew ?_ | refine up_put ?_ (by simp; omega) _)) hb1))
      go_ret
      exact ⟨ret_int Hfin.out.symm, hB⟩

end Go.Proofs.Ytojbdmdjepgpjaa
