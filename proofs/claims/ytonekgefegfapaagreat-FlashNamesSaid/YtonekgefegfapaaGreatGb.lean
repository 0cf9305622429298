/-
  WALK of hopeless: a row of 41 numbers, each 120. No condition.
-/
import Derived.Test.YtonekgefegfapaaGreatGa
namespace Go.Proofs.YtonekgefegfapaaGreat
open Go.RowKit

/-- A row, as it lies in memory. -/
def rowC (r : List Nat) : Array Value := (r.map fun n : Nat => iv n).toArray
theorem rowC_size (r : List Nat) : (rowC r).size = r.length := by simp [rowC]
theorem rowC_get (r : List Nat) (i : Nat) : (rowC r)[i]? = (r[i]?).map fun n : Nat => iv n := by simp [rowC]
theorem rowC_set (r : List Nat) (i x : Nat) : (rowC r).setIfInBounds i (iv x) = rowC (r.set i x) := by
  simp [rowC, List.map_set]
theorem rowC_one (r : List Nat) : (rowC r).all (·.oneCell') = true := by
  simp [rowC, Value.oneCell']
def hopeL (k : Nat) : List Nat := List.replicate k 120 ++ List.replicate (41 - k) 0
theorem hopeL_get {k : Nat} (hk : k < 41) : (hopeL k)[k]? = some 0 := by
  unfold hopeL
  rw [List.getElem?_append_right (by simp), List.length_replicate, Nat.sub_self, List.getElem?_replicate, if_pos (by omega)]
theorem hopeL_set {k : Nat} (hk : k < 41) : (hopeL k).set k 120 = hopeL (k + 1) := by
  unfold hopeL
  rw [List.set_append_right _ _ (by simp), List.length_replicate, Nat.sub_self, show 41 - k = (41 - (k + 1)) + 1 by omega, List.replicate_succ, List.set_cons_zero, List.replicate_succ']
  simp
theorem Box.row {w : World} {g t : Nat} {cs cs' : Array Value} (h : Box w g t cs) : Box (w.setRow g cs') g t cs' := setRow_heap w g cs cs' t _ h
theorem below_row {w W : World} (h : Below w.heap.size w W) {g : Nat} (hg : w.heap.size ≤ g) (cs : Array Value) : Below w.heap.size w (W.setRow g cs) :=
  ⟨h.os, h.tape, h.output, by simpa [World.setRow] using h.size, fun k hk => by
    have hne : g ≠ k := by omega
    rw [← h.block k hk]
    simp [World.setRow, Array.getElem?_modify, hne]⟩
theorem info143 : (Tryz.prog.info? 143).map (·.size) = some 41 := by kernel_rfl
set_option maxRecDepth 100000 in
set_option maxHeartbeats 1500000 in
theorem hopeless_any (w : World) : Calls Tryz.prog 86 #[] w fun e w' => e = .returned (.agg (rowC (hopeL 41))) ∧ Below w.heap.size w w' := by
  go_enter Tryz.func86, Tryz.ntmps86
  go_wp2_with fail
  go_loopw [3] (fun i wr => ∃ k : Nat, k ≤ 41 ∧ i = iv k ∧ Hid (Box wr (w.heap.size + 1) 143 (rowC (hopeL k))) ∧ Hid (Box wr w.heap.size 143 (rowC (hopeL 0))) ∧ Below w.heap.size w wr) (fun i _ => 41 - (intOf i).toNat)
  case atStart => exact ⟨0, by omega, rfl, Lib.hid (Box.new (by simp)), Lib.hid ((Box.new rfl).alloc _), up_alloc (up_alloc up0 _) _⟩
  case round =>
    obtain ⟨k, hk, rfl, HP, HQ, hB⟩ := hrel
    by_cases hlt : k < 41
    · have hlt' : (k : Int) < 41 := by omega
      have k0 : (0 : Int) ≤ (k : Int) := by omega
      have bP := HP.out
      have fP := bP.free k
      have hcell : wr.cell? ⟨w.heap.size + 1, k, none⟩ = some (iv 0) := by
        rw [bP.cell, rowC_get, hopeL_get hlt]
        rfl
      have b2 := bP.put k (iv (120 : Nat))
      rw [rowC_set, hopeL_set hlt] at b2
      have HB2 := Lib.hid b2
      clear b2 bP
      go_wp2_with fail
      go_roundw
      case rel => exact ⟨k + 1, by omega, by go_num, HB2, Lib.hid (HQ.out.far (p := ⟨w.heap.size + 1, k, none⟩) (by simp) _), up_put hB (by simp) _⟩
      case measure => simp [intOf]; omega
    · obtain rfl : k = 41 := by omega
      have bP := HP.out
      have bQ := HQ.out
      have und143 : Tryz.prog.underlying 143 = _ := Tryz.underlying143
      have hi : (Tryz.prog.info? 143).map (·.size) = some (rowC (hopeL 41)).size := by rw [rowC_size]; exact info143
      go_upto_region 7 with fail
      refine wp_region_lit ?_
      refine wpList_load_row rfl 143 (.tmp 1) rfl (w.heap.size + 1) rfl 143 (rowC (hopeL 41)) (0, 0) _ bP und143 rfl hi ?_
      refine wpList_store_row rfl 143 (.tmp 0) (.tmp 9) rfl w.heap.size (rowC (hopeL 41)) rfl rfl 143 (rowC (hopeL 0)) bQ hi (by rw [rowC_size, rowC_size]; rfl) (rowC_one _) ?_
      obtain ⟨R, hR⟩ : ∃ R, rowC (hopeL 41) = R := ⟨_, rfl⟩
      have HR := Lib.hid hR
      rw [hR] at hi ⊢
      have B5 := Box.row (cs' := R) bQ
      have hB5 := below_row hB (g := w.heap.size) (Nat.le_refl _) R
      clear hR
      go_wp2_with fail
      refine bodyPost_ret (v := .agg R) (results_cell rfl rfl B5 und143 rfl hi) rfl ⟨by rw [HR.out], hB5⟩
end Go.Proofs.YtonekgefegfapaaGreat
