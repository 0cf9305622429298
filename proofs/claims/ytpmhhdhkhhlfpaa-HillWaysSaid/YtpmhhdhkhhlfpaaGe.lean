/-
  WALKS of the hill layer's lines of sight: each call returns what the plain function gives; memory that lay before is as it was. Conditions: those of the theorems' premises (places from 0 to 100, heights from 0 to 1000).
-/
import Derived.Test.YtpmhhdhkhhlfpaaLf
import Derived.Deep.RegionWith
namespace Go.Proofs.Ytpmhhdhkhhlfpaa
open Go.RowKit

set_option maxHeartbeats 400000 in
theorem lifted_any (ax ay az am bx b_y bz bm n : Int) (w : World) (h1 : 0 ≤ az) (h2 : az ≤ 1000) (h3 : 0 ≤ n) (h4 : n ≤ 1000) :
    Calls Try.prog 64 #[.agg #[.int .i64 ax, .int .i64 ay, .int .i64 az, .int .i64 am, .int .i64 bx, .int .i64 b_y, .int .i64 bz, .int .i64 bm], .int .i64 n] w fun e w' =>
      e = .returned (.agg #[.int .i64 ax, .int .i64 ay, .int .i64 (az + n), .int .i64 am, .int .i64 bx, .int .i64 b_y, .int .i64 bz, .int .i64 bm]) ∧ Below w.heap.size w w' := by
  go_enter Try.func64, Try.ntmps64
  go_wp2
  refine bodyPost_ret (v := .agg #[.int .i64 ax, .int .i64 ay, .int .i64 (az + n), .int .i64 am, .int .i64 bx, .int .i64 b_y, .int .i64 bz, .int .i64 bm]) (by simp [results, Try.results64, go_sem]) rfl ⟨rfl, ?_⟩
  (repeat (first | exact Below.refl _ _ | assumption | refine Below.drew ?_ | refine Below.alloc ?_ (by simp <;> omega) _ | refine Below.setCell ?_ (by simp <;> omega) _))

/-- The sun is behind the first station. -/
def behindI (e n ax ay bx b_y : Int) : Bool := decide (e * (bx - ax) + n * (b_y - ay) < 0)
theorem behind_wrap (e n ax ay bx b_y : Int) (h1 : 0 ≤ ax ∧ ax ≤ 100) (h2 : 0 ≤ ay ∧ ay ≤ 100) (h3 : 0 ≤ bx ∧ bx ≤ 100) (h4 : 0 ≤ b_y ∧ b_y ≤ 100) (h5 : -100 ≤ e ∧ e ≤ 100) (h6 : -100 ≤ n ∧ n ≤ 100) :
    decide (wrap64 (wrap64 (e * (bx - ax)) + wrap64 (n * (b_y - ay))) < 0) = behindI e n ax ay bx b_y := by
  have a := mul_in e (bx - ax) 100 100 (by omega) (by omega) (by omega) (by omega)
  have b := mul_in n (b_y - ay) 100 100 (by omega) (by omega) (by omega) (by omega)
  rw [wrap_in _ 10000 (by omega) a, wrap_in _ 10000 (by omega) b, wrap_in _ 20000 (by omega) (by omega)]
  rfl

set_option maxHeartbeats 400000 in
theorem behind_any (e n u ax ay az am bx b_y bz bm : Int) (w : World) (h1 : 0 ≤ ax ∧ ax ≤ 100) (h2 : 0 ≤ ay ∧ ay ≤ 100) (h3 : 0 ≤ bx ∧ bx ≤ 100) (h4 : 0 ≤ b_y ∧ b_y ≤ 100) (h5 : -100 ≤ e ∧ e ≤ 100) (h6 : -100 ≤ n ∧ n ≤ 100) :
    Calls Try.prog 61 #[.agg #[.int .i64 e, .int .i64 n, .int .i64 u], .agg #[.int .i64 ax, .int .i64 ay, .int .i64 az, .int .i64 am, .int .i64 bx, .int .i64 b_y, .int .i64 bz, .int .i64 bm]] w fun r w' =>
      r = .returned (.bool (behindI e n ax ay bx b_y)) ∧ Below w.heap.size w w' := by
  have H := Lib.hid (behind_wrap e n ax ay bx b_y h1 h2 h3 h4 h5 h6)
  obtain ⟨h1, h1'⟩ := h1
  obtain ⟨h2, h2'⟩ := h2
  obtain ⟨h3, h3'⟩ := h3
  obtain ⟨h4, h4'⟩ := h4
  obtain ⟨h5, h5'⟩ := h5
  obtain ⟨h6, h6'⟩ := h6
  go_enter Try.func61, Try.ntmps61
  go_wp2
  go_ret
  exact ⟨ret_bool H.out, by (repeat (first | exact Below.refl _ _ | assumption | refine Below.drew ?_ | refine Below.alloc ?_ (by simp <;> omega) _ | refine Below.setCell ?_ (by simp <;> omega) _))⟩

end Go.Proofs.Ytpmhhdhkhhlfpaa
