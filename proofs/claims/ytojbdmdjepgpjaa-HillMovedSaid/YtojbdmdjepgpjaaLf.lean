/-
  WALKS of the hill layer's leaf functions: each call returns what the plain function gives; memory that lay before is as it was. Conditions: none but those of the theorems' premises.
  WALKS of the hill layer's lines of sight: each call returns what the plain function gives; memory that lay before is as it was. Conditions: those of the theorems' premises (places from 0 to 100, heights from 0 to 1000).
-/
import Derived.Test.YtojbdmdjepgpjaaChecked
import Derived.Test.YtojbdmdjepgpjaaPl
import Derived.WalkKit
import Derived.WalkSpells
import Derived.WalkLawsBesides
import Derived.Lib.Hide
import Derived.RegionTactic
import Derived.BigRegion
import Derived.Deep.QuietTactic
import Derived.BigQuiet
import Derived.Deep.RegionWith
namespace Go.Proofs.Ytojbdmdjepgpjaa
open Go.RowKit

set_option maxHeartbeats 400000 in
theorem size_any (n : Int) (w : World) (h1 : -1000000000 ≤ n) (h2 : n ≤ 1000000000) :
    Calls Try.prog 105 #[.int .i64 n] w fun e w' => e = .returned (.int .i64 (sizeI n)) ∧ w = w' := by
  by_cases h : n < 0
  · have e : sizeI n = -n := by unfold sizeI; rw [if_pos h]
    rw [e]
    go_enter Try.func105, Try.ntmps105
    go_wp2
    go_ret
    exact ⟨rfl, rfl⟩
  · have e : sizeI n = n := by unfold sizeI; rw [if_neg h]
    rw [e]
    go_enter Try.func105, Try.ntmps105
    go_wp2
    go_ret
    exact ⟨rfl, rfl⟩

set_option maxHeartbeats 400000 in
theorem base_any (x1 y1 x2 y2 b t : Int) (w : World) :
    Calls Try.prog 90 #[.agg #[.int .i64 x1, .int .i64 y1, .int .i64 x2, .int .i64 y2, .int .i64 b, .int .i64 t]] w fun e w' => e = .returned (.int .i64 b) ∧ Below w.heap.size w w' := by
  go_enter Try.func90, Try.ntmps90
  go_wp2
  go_ret
  exact ⟨rfl, (Below.refl _ _).alloc (Nat.le_refl _) _⟩

set_option maxHeartbeats 400000 in
theorem top_any (x1 y1 x2 y2 b t : Int) (w : World) :
    Calls Try.prog 91 #[.agg #[.int .i64 x1, .int .i64 y1, .int .i64 x2, .int .i64 y2, .int .i64 b, .int .i64 t]] w fun e w' => e = .returned (.int .i64 t) ∧ Below w.heap.size w w' := by
  go_enter Try.func91, Try.ntmps91
  go_wp2
  go_ret
  exact ⟨rfl, (Below.refl _ _).alloc (Nat.le_refl _) _⟩

set_option maxHeartbeats 400000 in
theorem place_any (x y z m : Int) (w : World) :
    Calls Try.prog 94 #[.agg #[.int .i64 x, .int .i64 y, .int .i64 z, .int .i64 m]] w fun e w' => e = .returned (.agg #[.int .i64 x, .int .i64 y]) ∧ Below w.heap.size w w' := by
  go_enter Try.func94, Try.ntmps94
  go_wp2
  refine bodyPost_ret (v := .agg #[.int .i64 x, .int .i64 y]) (by simp [results, Try.results94, go_sem]) rfl ⟨rfl, ?_⟩
  exact (((Below.refl _ _).alloc (Nat.le_refl _) _).alloc (by simp) _)

set_option maxHeartbeats 400000 in
theorem isUp_any (e n u : Int) (w : World) :
    Calls Try.prog 60 #[.agg #[.int .i64 e, .int .i64 n, .int .i64 u]] w fun r w' => r = .returned (.bool (decide (0 < u))) ∧ Below w.heap.size w w' := by
  go_enter Try.func60, Try.ntmps60
  go_wp2
  go_ret
  exact ⟨rfl, (Below.refl _ _).alloc (Nat.le_refl _) _⟩

set_option maxHeartbeats 400000 in
theorem side_any (ax ay bx b_y px py : Int) (w : World) (h1 : 0 ≤ ax ∧ ax ≤ 100) (h2 : 0 ≤ ay ∧ ay ≤ 100) (h3 : 0 ≤ bx ∧ bx ≤ 100) (h4 : 0 ≤ b_y ∧ b_y ≤ 100) (h5 : 0 ≤ px ∧ px ≤ 100) (h6 : 0 ≤ py ∧ py ≤ 100) :
    Calls Try.prog 104 #[.agg #[.int .i64 ax, .int .i64 ay], .agg #[.int .i64 bx, .int .i64 b_y], .agg #[.int .i64 px, .int .i64 py]] w fun e w' => e = .returned (.int .i64 (sideI ax ay bx b_y px py)) ∧ Below w.heap.size w w' := by
  have H := Lib.hid (side_wrap ax ay bx b_y px py h1 h2 h3 h4 h5 h6)
  obtain ⟨h1, h1'⟩ := h1
  obtain ⟨h2, h2'⟩ := h2
  obtain ⟨h3, h3'⟩ := h3
  obtain ⟨h4, h4'⟩ := h4
  obtain ⟨h5, h5'⟩ := h5
  obtain ⟨h6, h6'⟩ := h6
  go_enter Try.func104, Try.ntmps104
  go_wp2
  go_ret
  exact ⟨ret_int H.out, (((Below.refl _ _).alloc (Nat.le_refl _) _).alloc (by simp) _).alloc (by simp; omega) _⟩

set_option maxHeartbeats 400000 in
theorem has_any (lo hi n : Int) (w : World) :
    Calls Try.prog 78 #[.agg #[.int .i64 lo, .int .i64 hi], .int .i64 n] w fun e w' => e = .returned (.bool (decide (lo ≤ n) && decide (n ≤ hi))) ∧ Below w.heap.size w w' := by
  by_cases h : lo ≤ n
  · by_cases h' : n ≤ hi
    all_goals
      go_enter Try.func78, Try.ntmps78
      go_wp2
      go_ret
      exact ⟨ret_bool (by simp [h, h']), (Below.refl _ _).alloc (Nat.le_refl _) _⟩
  · go_enter Try.func78, Try.ntmps78
    go_wp2
    go_ret
    exact ⟨ret_bool (by simp; omega), (Below.refl _ _).alloc (Nat.le_refl _) _⟩

/-- A height of the line is so many parts; how far it is above a whole number. -/
theorem above_any (parts many whole : Int) (w : World) (h1 : -100000000 ≤ parts) (h1' : parts ≤ 100000000) (h2 : 0 ≤ many) (h2' : many ≤ 100000) (h3 : 0 ≤ whole) (h3' : whole ≤ 1000) :
    Calls Try.prog 92 #[.agg #[.int .i64 parts, .int .i64 many], .int .i64 whole] w fun e w' => e = .returned (.int .i64 (parts - whole * many)) ∧ Below w.heap.size w w' := by
  have hm := mul_in whole many 1000 100000 (by omega) (by omega) (by omega) (by omega)
  have H : wrap64 (parts - wrap64 (whole * many)) = parts - whole * many := by
    rw [wrap_in (whole * many) 100000000 (by omega) (by omega)]
    exact wrap_in _ 300000000 (by omega) (by omega)
  have H := Lib.hid H
  clear hm
  go_enter Try.func92, Try.ntmps92
  go_wp2
  go_ret
  exact ⟨ret_int H.out, (Below.refl _ _).alloc (Nat.le_refl _) _⟩

set_option maxHeartbeats 400000 in
theorem ends_any (x1 y1 x2 y2 b t : Int) (w : World) :
    Calls Try.prog 103 #[.agg #[.int .i64 x1, .int .i64 y1, .int .i64 x2, .int .i64 y2, .int .i64 b, .int .i64 t]] w fun e w' => e = .returned (.tuple #[.agg #[.int .i64 x1, .int .i64 y1], .agg #[.int .i64 x2, .int .i64 y2]]) ∧ Below w.heap.size w w' := by
  go_enter Try.func103, Try.ntmps103
  go_wp2
  go_region
  all_goals
    go_wp2
    refine bodyPost_ret (v := .tuple #[.agg #[.int .i64 x1, .int .i64 y1], .agg #[.int .i64 x2, .int .i64 y2]]) (by simp [results, Try.results103, go_sem]) rfl ⟨rfl, ?_⟩
    (repeat (first | exact Below.refl _ _ | assumption | refine Below.drew ?_ | refine Below.alloc ?_ (by simp <;> omega) _ | refine Below.setCell ?_ (by simp <;> omega) _))

end Go.Proofs.Ytojbdmdjepgpjaa

namespace Go.Proofs.Ytojbdmdjepgpjaa
open Go.RowKit

set_option maxHeartbeats 400000 in
theorem lifted_any (ax ay az am bx b_y bz bm n : Int) (w : World) (h1 : 0 ≤ az) (h2 : az ≤ 1000) (h3 : 0 ≤ n) (h4 : n ≤ 1000) :
    Calls Try.prog 64 #[.agg #[.int .i64 ax, .int .i64 ay, .int .i64 az, .int .i64 am, .int .i64 bx, .int .i64 b_y, .int .i64 bz, .int .i64 bm], .int .i64 n] w fun e w' =>
      e = .returned (.agg #[.int .i64 ax, .int .i64 ay, .int .i64 (az + n), .int .i64 am, .int .i64 bx, .int .i64 b_y, .int .i64 bz, .int .i64 bm]) ∧ Below w.heap.size w w' := by
  go_enter Try.func64, Try.ntmps64
  go_wp2
  refine bodyPost_ret (v := .agg #[.int .i64 ax, .int .i64 ay, .int .i64 (az + n), .int .i64 am, .int .i64 bx, .int .i64 b_y, .int .i64 bz, .int .i64 bm]) (by simp [results, Try.results64, go_sem]) rfl ⟨rfl, ?_⟩
  (repeat (first | exact Below.refl _ _ | assumption | refine Below.drew ?_ | refine Below.alloc ?_ (by simp <;> omega) _ | refine Below.setCell ?_ (by simp <;> omega) _))

/-- The sun is behind the first station. -/
def behindI (e n ax ay bx b_y : Int) : Bool := decide (e * (bx - ax) + n * (b_y - ay) < 0)
theorem behind_wrap (e n ax ay bx b_y : Int) (h1 : 0 ≤ ax ∧ ax ≤ 100) (h2 : 0 ≤ ay ∧ ay ≤ 100) (h3 : 0 ≤ bx ∧ bx ≤ 100) (h4 : 0 ≤ b_y ∧ b_y ≤ 100) (h5 : -100 ≤ e ∧ e ≤ 100) (h6 : -100 ≤ n ∧ n ≤ 100) :
    decide (wrap64 (wrap64 (e * (bx - ax)) + wrap64 (n * (b_y - ay))) < 0) = behindI e n ax ay bx b_y := by
  have a := mul_in e (bx - ax) 100 100 (by omega) (by omega) (by omega) (by omega)
  have b := mul_in n (b_y - ay) 100 100 (by omega) (by omega) (by omega) (by omega)
  rw [wrap_in _ 10000 (by omega) a, wrap_in _ 10000 (by omega) b, wrap_in _ 20000 (by omega) (by omega)]
  rfl

set_option maxHeartbeats 400000 in
theorem behind_any (e n u ax ay az am bx b_y bz bm : Int) (w : World) (h1 : 0 ≤ ax ∧ ax ≤ 100) (h2 : 0 ≤ ay ∧ ay ≤ 100) (h3 : 0 ≤ bx ∧ bx ≤ 100) (h4 : 0 ≤ b_y ∧ b_y ≤ 100) (h5 : -100 ≤ e ∧ e ≤ 100) (h6 : -100 ≤ n ∧ n ≤ 100) :
    Calls Try.prog 61 #[.agg #[.int .i64 e, .int .i64 n, .int .i64 u], .agg #[.int .i64 ax, .int .i64 ay, .int .i64 az, .int .i64 am, .int .i64 bx, .int .i64 b_y, .int .i64 bz, .int .i64 bm]] w fun r w' =>
      r = .returned (.bool (behindI e n ax ay bx b_y)) ∧ Below w.heap.size w w' := by
  have H := Lib.hid (behind_wrap e n ax ay bx b_y h1 h2 h3 h4 h5 h6)
  obtain ⟨h1, h1'⟩ := h1
  obtain ⟨h2, h2'⟩ := h2
  obtain ⟨h3, h3'⟩ := h3
  obtain ⟨h4, h4'⟩ := h4
  obtain ⟨h5, h5'⟩ := h5
  obtain ⟨h6, h6'⟩ := h6
  go_enter Try.func61, Try.ntmps61
  go_wp2
  go_ret
  exact ⟨ret_bool H.out, by (repeat (first | exact Below.refl _ _ | assumption | refine Below.drew ?_ | refine Below.alloc ?_ (by simp <;> omega) _ | refine Below.setCell ?_ (by simp <;> omega) _))⟩

end Go.Proofs.Ytojbdmdjepgpjaa
