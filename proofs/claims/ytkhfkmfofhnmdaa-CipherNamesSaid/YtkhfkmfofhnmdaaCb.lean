/-
  WALKS of the cipher layer's leaf functions: each call returns what the plain function gives; memory that lay before is as it was. Conditions: those of the theorems' premises.
-/
import Derived.Test.YtkhfkmfofhnmdaaChecked
import Derived.Test.YtkhfkmfofhnmdaaCa
import Derived.WalkKit
import Derived.WalkSpells
import Derived.WalkLawsBesides
import Derived.Lib.Hide
import Derived.RegionTactic
import Derived.BigRegion
import Derived.Deep.QuietTactic
import Derived.BigQuiet
import Derived.Deep.RegionWith
namespace Go.Proofs.Ytkhfkmfofhnmdaa
open Go.RowKit

set_option maxHeartbeats 400000 in
theorem below_any (n e : Int) (w : World) :
    Calls Try.prog 88 #[iv n, iv e] w fun r w' => r = .returned (.bool (belowB n e)) ∧ Below w.heap.size w w' := by
  by_cases h1 : 0 ≤ n
  · by_cases h2 : n < e
    · go_enter Try.func88, Try.ntmps88
      go_wp2
      go_ret
      exact ⟨ret_bool (by simp [belowB, *]), up0⟩
    · go_enter Try.func88, Try.ntmps88
      go_wp2
      go_ret
      exact ⟨ret_bool (by simp [belowB, *]), up0⟩
  · go_enter Try.func88, Try.ntmps88
    go_wp2
    go_ret
    exact ⟨ret_bool (by simp [belowB, *]; try omega), up0⟩

set_option maxHeartbeats 400000 in
theorem isMost_any (n : Int) (w : World) :
    Calls Try.prog 71 #[iv n] w fun r w' => r = .returned (.bool (belowB n 9)) ∧ Below w.heap.size w w' := by
  go_enter Try.func71, Try.ntmps71
  go_wp2_with fail
  refine (below_any _ _ _).mono ?_
  rintro r w1 ⟨rfl, hb⟩
  go_wp2_with fail
  go_ret
  exact ⟨rfl, hb⟩

set_option maxHeartbeats 400000 in
theorem isPlain_any (s ws : Int) (v1 v2 : Value) (n : Int) (w : World) :
    Calls Try.prog 58 #[.agg #[iv s, iv ws, v1, v2], iv n] w fun r w' => r = .returned (.bool (belowB n s)) ∧ Below w.heap.size w w' := by
  go_enter Try.func58, Try.ntmps58
  go_wp2_with fail
  refine (below_any _ _ _).mono ?_
  rintro r w1 ⟨rfl, hb⟩
  go_wp2_with fail
  go_ret
  exact ⟨rfl, up_later (up_alloc up0 _) hb⟩

set_option maxHeartbeats 400000 in
theorem isNull_any (s ws : Int) (v1 v2 : Value) (n : Int) (w : World) :
    Calls Try.prog 99 #[.agg #[iv s, iv ws, v1, v2], iv n] w fun r w' => r = .returned (.bool (decide (ws ≤ n))) ∧ Below w.heap.size w w' := by
  go_enter Try.func99, Try.ntmps99
  go_wp2_with fail
  go_ret
  exact ⟨rfl, up_alloc up0 _⟩

set_option maxHeartbeats 400000 in
theorem hasKey_any (s ws : Int) (A1 : Option Addr) (n1 c1 : Nat) (v2 : Value) (n : Int) (w : World) :
    Calls Try.prog 85 #[.agg #[iv s, iv ws, .slice A1 n1 c1, v2], iv n] w fun r w' => r = .returned (.bool (belowB n n1)) ∧ Below w.heap.size w w' := by
  go_enter Try.func85, Try.ntmps85
  go_wp2_with fail
  refine (below_any _ _ _).mono ?_
  rintro r w1 ⟨rfl, hb⟩
  go_wp2_with fail
  go_ret
  exact ⟨rfl, up_later (up_alloc up0 _) hb⟩

set_option maxHeartbeats 400000 in
theorem hasDay_any (s ws : Int) (v1 : Value) (A2 : Option Addr) (n2 c2 : Nat) (n : Int) (w : World) :
    Calls Try.prog 56 #[.agg #[iv s, iv ws, v1, .slice A2 n2 c2], iv n] w fun r w' => r = .returned (.bool (belowB n n2)) ∧ Below w.heap.size w w' := by
  go_enter Try.func56, Try.ntmps56
  go_wp2_with fail
  refine (below_any _ _ _).mono ?_
  rintro r w1 ⟨rfl, hb⟩
  go_wp2_with fail
  go_ret
  exact ⟨rfl, up_later (up_alloc up0 _) hb⟩

set_option maxHeartbeats 400000 in
theorem hasCode_any (s ws : Int) (v1 v2 v3 : Value) (A4 : Option Addr) (n4 c4 : Nat) (v5 : Value) (n : Int) (w : World) :
    Calls Try.prog 78 #[.agg #[iv s, iv ws, v1, v2, v3, .slice A4 n4 c4, v5], iv n] w fun r w' => r = .returned (.bool (belowB n n4)) ∧ Below w.heap.size w w' := by
  go_enter Try.func78, Try.ntmps78
  go_wp2_with fail
  refine (below_any _ _ _).mono ?_
  rintro r w1 ⟨rfl, hb⟩
  go_wp2_with fail
  go_ret
  exact ⟨rfl, up_later (up_alloc up0 _) hb⟩

set_option maxHeartbeats 400000 in
theorem exceeds_any (s ws : Int) (A1 : Option Addr) (n1 c1 : Nat) (A2 : Option Addr) (n2 c2 : Nat) (w : World) :
    Calls Try.prog 52 #[.agg #[iv s, iv ws, .slice A1 n1 c1, .slice A2 n2 c2]] w fun r w' => r = .returned (.bool (decide (5 < n1) || decide (8 < n2))) ∧ Below w.heap.size w w' := by
  by_cases h1 : (5 : Int) < (n1 : Int)
  · go_enter Try.func52, Try.ntmps52
    go_wp2_with fail
    go_ret
    exact ⟨ret_bool (by rw [decide_eq_true (show 5 < n1 by omega)]; rfl), up_alloc up0 _⟩
  · go_enter Try.func52, Try.ntmps52
    go_wp2_with fail
    go_ret
    exact ⟨ret_bool (by rw [decide_eq_false (show ¬ 5 < n1 by omega), Bool.false_or]; exact decide_eq_decide.2 (by omega)), up_alloc up0 _⟩

set_option maxHeartbeats 400000 in
theorem isKey_any (s ws : Int) (v1 v2 : Value) (m a p : Int) (w : World) :
    Calls Try.prog 84 #[.agg #[iv s, iv ws, v1, v2], .agg #[iv m, iv a, iv p]] w fun r w' => r = .returned (.bool (keyB s ⟨m, a, p⟩)) ∧ Below w.heap.size w w' := by
  by_cases h0 : m = 0
  · have hB : Below w.heap.size w w := up0
    have z0 : (m == 0) = true := by simpa using h0
    go_enter Try.func84, Try.ntmps84
    go_wp2_with (go_at_call 58; refine (isPlain_any _ _ _ _ _ _).mono ?_; rintro e w1 ⟨rfl, hb1⟩; obtain ⟨hc1, hf1⟩ := bcell hb1; have hz9 := hb1.size; have hl9 : ∀ b, b < _ → b < w1.heap.size := (fun b h => Nat.lt_of_lt_of_le h hz9); have hz0 := hz9; clear hz9; (try simp at hz0); have hz1 : w.heap.size + 1 + 1 ≤ w1.heap.size := (by omega);  clear hz0; have hl0 : w.heap.size < w1.heap.size := (by omega); have hl1 : w.heap.size + 1 < w1.heap.size := (by omega); have hB : Below w.heap.size w w1 := up_later (by repeat (first | exact hB | refine up_alloc ?_ _ | refine up_drew ?_ | refine up_put ?_ (by simp; omega) _)) hb1)
    go_ret
    exact ⟨ret_bool (by simp [keyB, *]), (by repeat (first | exact hB | refine up_alloc ?_ _ | refine up_drew ?_ | refine up_put ?_ (by simp; omega) _))⟩
  · have z0 : (m == 0) = false := by simpa using h0
    cases h1 : belowB m s with
    | false =>
      have hB : Below w.heap.size w w := up0
      go_enter Try.func84, Try.ntmps84
      go_wp2_with (go_at_call 58; refine (isPlain_any _ _ _ _ _ _).mono ?_; rintro e w1 ⟨rfl, hb1⟩; obtain ⟨hc1, hf1⟩ := bcell hb1; have hz9 := hb1.size; have hl9 : ∀ b, b < _ → b < w1.heap.size := (fun b h => Nat.lt_of_lt_of_le h hz9); have hz0 := hz9; clear hz9; (try simp at hz0); have hz1 : w.heap.size + 1 + 1 ≤ w1.heap.size := (by omega);  clear hz0; have hl0 : w.heap.size < w1.heap.size := (by omega); have hl1 : w.heap.size + 1 < w1.heap.size := (by omega); have hB : Below w.heap.size w w1 := up_later (by repeat (first | exact hB | refine up_alloc ?_ _ | refine up_drew ?_ | refine up_put ?_ (by simp; omega) _)) hb1)
      go_ret
      exact ⟨ret_bool (by simp [keyB, *]), (by repeat (first | exact hB | refine up_alloc ?_ _ | refine up_drew ?_ | refine up_put ?_ (by simp; omega) _))⟩
    | true =>
      cases h2 : belowB a s with
      | false =>
        have hB : Below w.heap.size w w := up0
        go_enter Try.func84, Try.ntmps84
        go_wp2_with (go_at_call 58; refine (isPlain_any _ _ _ _ _ _).mono ?_; rintro e w1 ⟨rfl, hb1⟩; obtain ⟨hc1, hf1⟩ := bcell hb1; have hz9 := hb1.size; have hl9 : ∀ b, b < _ → b < w1.heap.size := (fun b h => Nat.lt_of_lt_of_le h hz9); have hz0 := hz9; clear hz9; (try simp at hz0); have hz1 : w.heap.size + 1 + 1 ≤ w1.heap.size := (by omega);  clear hz0; have hl0 : w.heap.size < w1.heap.size := (by omega); have hl1 : w.heap.size + 1 < w1.heap.size := (by omega); have hB : Below w.heap.size w w1 := up_later (by repeat (first | exact hB | refine up_alloc ?_ _ | refine up_drew ?_ | refine up_put ?_ (by simp; omega) _)) hb1)
        go_ret
        exact ⟨ret_bool (by simp [keyB, *]), (by repeat (first | exact hB | refine up_alloc ?_ _ | refine up_drew ?_ | refine up_put ?_ (by simp; omega) _))⟩
      | true =>
        have hB : Below w.heap.size w w := up0
        go_enter Try.func84, Try.ntmps84
        go_wp2_with (go_at_call 58; refine (isPlain_any _ _ _ _ _ _).mono ?_; rintro e w1 ⟨rfl, hb1⟩; obtain ⟨hc1, hf1⟩ := bcell hb1; have hz9 := hb1.size; have hl9 : ∀ b, b < _ → b < w1.heap.size := (fun b h => Nat.lt_of_lt_of_le h hz9); have hz0 := hz9; clear hz9; (try simp at hz0); have hz1 : w.heap.size + 1 + 1 ≤ w1.heap.size := (by omega);  clear hz0; have hl0 : w.heap.size < w1.heap.size := (by omega); have hl1 : w.heap.size + 1 < w1.heap.size := (by omega); have hB : Below w.heap.size w w1 := up_later (by repeat (first | exact hB | refine up_alloc ?_ _ | refine up_drew ?_ | refine up_put ?_ (by simp; omega) _)) hb1)
        go_ret
        exact ⟨ret_bool (by simp [keyB, *]), (by repeat (first | exact hB | refine up_alloc ?_ _ | refine up_drew ?_ | refine up_put ?_ (by simp; omega) _))⟩

end Go.Proofs.Ytkhfkmfofhnmdaa
