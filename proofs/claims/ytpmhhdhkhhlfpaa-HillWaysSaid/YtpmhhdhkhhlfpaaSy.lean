/-
  PLAIN: a wall blocks both ways.
-/
import Derived.Test.YtpmhhdhkhhlfpaaOp
namespace Go.Proofs.Ytpmhhdhkhhlfpaa

theorem sideI_back (ax ay bx b_y px py : Int) : sideI bx b_y ax ay px py = - sideI ax ay bx b_y px py := by unfold sideI; grind
theorem crossB_back (ax ay bx b_y x1 y1 x2 y2 : Int) : crossB bx b_y ax ay x1 y1 x2 y2 = crossB ax ay bx b_y x1 y1 x2 y2 := by
  unfold crossB
  rw [sideI_back ax ay bx b_y, sideI_back ax ay bx b_y, Int.mul_comm (sideI x1 y1 x2 y2 bx b_y), Int.neg_mul_neg]
theorem blockI_back (ax ay az bx b_y bz x1 y1 x2 y2 b t : Int) : blockI bx b_y bz ax ay az x1 y1 x2 y2 b t = blockI ax ay az bx b_y bz x1 y1 x2 y2 b t := by
  have hp : overP bx b_y bz ax ay az x1 y1 x2 y2 = overP ax ay az bx b_y bz x1 y1 x2 y2 := by unfold overP; rw [crossB_back, Int.add_comm]
  have hq : overQ bx b_y ax ay x1 y1 x2 y2 = overQ ax ay bx b_y x1 y1 x2 y2 := by unfold overQ; rw [crossB_back, Int.add_comm]
  unfold blockI
  rw [hp, hq, crossB_back]
theorem blocksW_back (a b : St) (x : Wl) : blocksW b a x = blocksW a b x := blockI_back _ _ _ _ _ _ _ _ _ _ _ _
theorem ridgesI_back (L : Ld) (a b : Int) : ridgesI L b a = ridgesI L a b := by
  unfold ridgesI
  congr 1
  funext x
  exact blocksW_back _ _ x
theorem ridgesI_sort (L : Ld) (a b : Int) : ridgesI L (min a b) (max a b) = ridgesI L a b := by
  by_cases h : a ≤ b
  · rw [Int.min_eq_left h, Int.max_eq_right h]
  · rw [Int.min_eq_right (by omega), Int.max_eq_left (by omega), ridgesI_back]

end Go.Proofs.Ytpmhhdhkhhlfpaa
