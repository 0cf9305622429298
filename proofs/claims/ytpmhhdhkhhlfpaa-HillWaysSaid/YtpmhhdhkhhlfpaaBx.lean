/-
  PLAIN: a block of memory that is known whole ('Box'), and how it lasts; no function of the program is named.
-/
import Derived.Test.YtpmhhdhkhhlfpaaPl
import Derived.OwnWalk
import Derived.Deep.Draws
import Derived.Laws.AppendOwn
import Derived.Laws.Rows
namespace Go.Proofs.Ytpmhhdhkhhlfpaa
open Go.RowKit

/-- Block g of w is just the cells cs of type t; none is frozen. -/
def Box (w : World) (g : Nat) (t : TypeId) (cs : Array Value) : Prop := w.heap[g]? = some (.cells cs t (0, 0))

section
variable {w w' : World} {g : Nat} {t : TypeId} {cs : Array Value}
theorem Box.lt (h : Box w g t cs) : g < w.heap.size := by
  by_cases hlt : g < w.heap.size
  · exact hlt
  · have := Array.getElem?_eq_none (xs := w.heap) (i := g) (by omega)
    unfold Box at h
    rw [this] at h
    cases h
theorem Box.cell (h : Box w g t cs) (i : Nat) : w.cell? ⟨g, i, none⟩ = cs[i]? := cell_of_row w g i cs t (0, 0) h
theorem Box.free (h : Box w g t cs) (i : Nat) : w.frozen? ⟨g, i, none⟩ = false := by
  unfold Box at h
  simp [World.frozen?, h]
theorem Box.new (h : g = w.heap.size) : Box (w.alloc (.cells cs t)) g t cs := by subst h; exact heap_alloc_new w _
theorem Box.alloc (h : Box w g t cs) (o : Obj) : Box (w.alloc o) g t cs := (Below.heap_alloc w o g h.lt).trans h
theorem Box.drew (h : Box w g t cs) : Box w.drew g t cs := h
theorem Box.drewN (h : Box w g t cs) (n : Nat) : Box (w.drewN n) g t cs := h
theorem Box.below {B : Nat} (h : Box w g t cs) (hb : Below B w w') (hg : g < B) : Box w' g t cs := (hb.block g hg).trans h
theorem Box.kept (h : Box w g t cs) (hb : Below w.heap.size w w') : Box w' g t cs := h.below hb h.lt
theorem Box.grown {row : Option Nat} (h : Box w g t cs) (hb : w.grownBy w' row) (hg : some g ≠ row) : Box w' g t cs := (hb.block g h.lt hg).trans h
theorem Box.far (h : Box w g t cs) {p : Addr} (hp : g ≠ p.block) (u : Value) : Box (w.setCell p u) g t cs := (Below.heap_setCell w p u g hp).trans h
theorem Box.put (h : Box w g t cs) (i : Nat) (u : Value) : Box (w.setCell ⟨g, i, none⟩ u) g t (cs.setIfInBounds i u) := by
  unfold Box at h ⊢
  simp [World.setCell, Array.getElem?_modify, h]
theorem Box.put1 {a0 u0 : Value} (h : Box w g t #[a0]) : Box (w.setCell ⟨g, 0, none⟩ u0) g t #[u0] := by simpa using (h.put 0 u0)
theorem Box.put2 {a0 a1 u0 u1 : Value} (h : Box w g t #[a0, a1]) : Box ((w.setCell ⟨g, 0, none⟩ u0).setCell ⟨g, 1, none⟩ u1) g t #[u0, u1] := by simpa using ((h.put 0 u0).put 1 u1)
theorem Box.put3 {a0 a1 a2 u0 u1 u2 : Value} (h : Box w g t #[a0, a1, a2]) : Box (((w.setCell ⟨g, 0, none⟩ u0).setCell ⟨g, 1, none⟩ u1).setCell ⟨g, 2, none⟩ u2) g t #[u0, u1, u2] := by simpa using (((h.put 0 u0).put 1 u1).put 2 u2)
theorem Box.put4 {a0 a1 a2 a3 u0 u1 u2 u3 : Value} (h : Box w g t #[a0, a1, a2, a3]) : Box ((((w.setCell ⟨g, 0, none⟩ u0).setCell ⟨g, 1, none⟩ u1).setCell ⟨g, 2, none⟩ u2).setCell ⟨g, 3, none⟩ u3) g t #[u0, u1, u2, u3] := by simpa using ((((h.put 0 u0).put 1 u1).put 2 u2).put 3 u3)
theorem Box.put5 {a0 a1 a2 a3 a4 u0 u1 u2 u3 u4 : Value} (h : Box w g t #[a0, a1, a2, a3, a4]) : Box (((((w.setCell ⟨g, 0, none⟩ u0).setCell ⟨g, 1, none⟩ u1).setCell ⟨g, 2, none⟩ u2).setCell ⟨g, 3, none⟩ u3).setCell ⟨g, 4, none⟩ u4) g t #[u0, u1, u2, u3, u4] := by simpa using (((((h.put 0 u0).put 1 u1).put 2 u2).put 3 u3).put 4 u4)
theorem Box.put6 {a0 a1 a2 a3 a4 a5 u0 u1 u2 u3 u4 u5 : Value} (h : Box w g t #[a0, a1, a2, a3, a4, a5]) : Box ((((((w.setCell ⟨g, 0, none⟩ u0).setCell ⟨g, 1, none⟩ u1).setCell ⟨g, 2, none⟩ u2).setCell ⟨g, 3, none⟩ u3).setCell ⟨g, 4, none⟩ u4).setCell ⟨g, 5, none⟩ u5) g t #[u0, u1, u2, u3, u4, u5] := by simpa using ((((((h.put 0 u0).put 1 u1).put 2 u2).put 3 u3).put 4 u4).put 5 u5)
theorem Box.put7 {a0 a1 a2 a3 a4 a5 a6 u0 u1 u2 u3 u4 u5 u6 : Value} (h : Box w g t #[a0, a1, a2, a3, a4, a5, a6]) : Box (((((((w.setCell ⟨g, 0, none⟩ u0).setCell ⟨g, 1, none⟩ u1).setCell ⟨g, 2, none⟩ u2).setCell ⟨g, 3, none⟩ u3).setCell ⟨g, 4, none⟩ u4).setCell ⟨g, 5, none⟩ u5).setCell ⟨g, 6, none⟩ u6) g t #[u0, u1, u2, u3, u4, u5, u6] := by simpa using (((((((h.put 0 u0).put 1 u1).put 2 u2).put 3 u3).put 4 u4).put 5 u5).put 6 u6)
theorem Box.put8 {a0 a1 a2 a3 a4 a5 a6 a7 u0 u1 u2 u3 u4 u5 u6 u7 : Value} (h : Box w g t #[a0, a1, a2, a3, a4, a5, a6, a7]) : Box ((((((((w.setCell ⟨g, 0, none⟩ u0).setCell ⟨g, 1, none⟩ u1).setCell ⟨g, 2, none⟩ u2).setCell ⟨g, 3, none⟩ u3).setCell ⟨g, 4, none⟩ u4).setCell ⟨g, 5, none⟩ u5).setCell ⟨g, 6, none⟩ u6).setCell ⟨g, 7, none⟩ u7) g t #[u0, u1, u2, u3, u4, u5, u6, u7] := by simpa using ((((((((h.put 0 u0).put 1 u1).put 2 u2).put 3 u3).put 4 u4).put 5 u5).put 6 u6).put 7 u7)
theorem Box.later (hb : Below w.heap.size w w') (h : Box w g t cs) : Box w' g t cs := h.below hb h.lt
theorem Box.neq {p : Addr} {t' : TypeId} {cs' : Array Value} (h : Box w g t cs) (h' : Box w p.block t' cs') (hne : t ≠ t') : g ≠ p.block := by
  intro e
  subst e
  unfold Box at h h'
  rw [h] at h'
  injection h' with h'
  injection h' with _ ht
  exact hne ht
end

section
variable {w W W' : World}
theorem up0 : Below w.heap.size w w := Below.refl _ _
theorem up_alloc (h : Below w.heap.size w W) (o : Obj) : Below w.heap.size w (W.alloc o) := h.alloc h.size o
theorem up_later (h : Below w.heap.size w W) (hb : Below W.heap.size W W') : Below w.heap.size w W' := h.trans (hb.mono h.size)
theorem up_put (h : Below w.heap.size w W) {p : Addr} (hp : w.heap.size ≤ p.block) (u : Value) : Below w.heap.size w (W.setCell p u) := h.setCell hp u
theorem up_drew (h : Below w.heap.size w W) : Below w.heap.size w W.drew := h.drew
end

end Go.Proofs.Ytpmhhdhkhhlfpaa
