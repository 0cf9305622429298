/-
  WALK of the reference's In. No condition.
-/
import Derived.Test.YtonekgefegfapaaGreatGq
namespace Go.Proofs.YtonekgefegfapaaGreat
open Go.RowKit

set_option maxRecDepth 100000 in
theorem In_b (x a b : Int) (v : Bool) (w : World) (h : (decide (a ≤ x) && decide (x ≤ b)) = v) : Calls Tryz.prog 36 #[iv x, iv a, iv b] w fun e w' => e = .returned (.bool v) ∧ Below w.heap.size w w' := by
  by_cases h1 : a ≤ x
  · by_cases h2 : x ≤ b
    · obtain rfl : true = v := by rw [← h, decide_eq_true h1, decide_eq_true h2]; rfl
      clear h
      go_enter Tryz.func36, Tryz.ntmps36
      go_wp2_with fail
      go_ret
      exact ⟨rfl, up0⟩
    · obtain rfl : false = v := by rw [← h, decide_eq_true h1, decide_eq_false h2]; rfl
      clear h
      go_enter Tryz.func36, Tryz.ntmps36
      go_wp2_with fail
      go_ret
      exact ⟨rfl, up0⟩
  · obtain rfl : false = v := by rw [← h, decide_eq_false h1]; rfl
    clear h
    go_enter Tryz.func36, Tryz.ntmps36
    go_wp2_with fail
    go_ret
    exact ⟨rfl, up0⟩
theorem all_take {α : Type} {p : α → Bool} {l : List α} {k : Nat} {x : α} (hx : l[k]? = some x) : (l.take (k + 1)).all p = ((l.take k).all p && p x) := by
  rw [List.take_add_one, hx]
  simp
end Go.Proofs.YtonekgefegfapaaGreat
