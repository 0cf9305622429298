/-
  PLAIN: a region that appends to a list and puts two cells, its operations in whatever order: 'xs, at = append(xs, x), p'.
-/
import Derived.Test.YtonekgefegfapaaGreatFl
namespace Go.Proofs.YtonekgefegfapaaGreat
open Go.RowKit Go.Shelf

/-- What holds while a region appends x to the list in block B3 and puts p1 into block g4, some of its operations done. -/
structure App (B3 g4 : Nat) (v0 : Value) (n : Nat) (xs : List Value) (x : Value) (p0 p1 : Array Value) (base : Nat) (W : World) (L : Nat → Bool) (vs : Nat → Value) (w : World) : Prop where
  os : w.os = W.os
  tape : w.tape = W.tape
  output : w.output = W.output
  size : W.heap.size ≤ w.heap.size
  block : ∀ k, k < W.heap.size → k ≠ B3 → k ≠ g4 → some k ≠ v0.ownBlock → w.heap[k]? = W.heap[k]?
  b4 : Box w g4 89 (if L 6 = true then p1 else p0)
  b3 : Box w B3 25 #[if L 5 = true then vs 3 else v0]
  own : if L 3 = true then w.ownsRow base 3 1 (vs 3) (n + 1) (xs ++ [x]) else w.ownsRow base 3 1 v0 n xs
  v0 : L 0 = true → vs 0 = v0
  v1 : L 1 = true → vs 1 = x
  v2 : L 2 = true → L 3 = false → ∃ g, vs 2 = .slice (some ⟨g, 0, none⟩) 1 1 ∧ Box w g 3 #[x] ∧ W.heap.size ≤ g
  v4 : L 4 = true → vs 4 = .agg p1
  o5 : L 5 = true → L 3 = true
  o3 : L 3 = true → L 0 = true ∧ L 2 = true
section
variable {B3 g4 base n : Nat} {v0 x : Value} {xs : List Value} {p0 p1 : Array Value} {W w w' : World} {L : Nat → Bool} {vs : Nat → Value}
theorem App.start (h3 : Box W B3 25 #[v0]) (h4 : Box W g4 89 p0) (ho : W.ownsRow base 3 1 v0 n xs) (x : Value) :
    App B3 g4 v0 n xs x p0 p1 base W (fun _ => false) (fun _ => undef) W.drew :=
  ⟨rfl, rfl, rfl, Nat.le_refl _, fun _ _ _ _ _ => rfl, h4.kept (up_drew up0), h3.kept (up_drew up0), own_below ho (up_drew up0), by simp, by simp, by simp, by simp, by simp, by simp⟩
theorem App.l3 (h : App B3 g4 v0 n xs x p0 p1 base W L vs w) (hL : L 0 = false ∨ L 2 = false) : L 3 = false := by
  cases h3 : L 3 with
  | false => rfl
  | true =>
    have := h.o3 h3
    rw [this.1, this.2] at hL
    simp at hL
theorem App.l5 (h : App B3 g4 v0 n xs x p0 p1 base W L vs w) (hL : L 3 = false) : L 5 = false := by
  cases h5 : L 5 with
  | false => rfl
  | true =>
    rw [h.o5 h5] at hL
    cases hL
theorem App.b30 (h : App B3 g4 v0 n xs x p0 p1 base W L vs w) (hL : L 0 = false) : Box w B3 25 #[v0] := by
  have := h.b3
  rw [h.l5 (h.l3 (.inl hL))] at this
  simpa using this
theorem App.own0 (h : App B3 g4 v0 n xs x p0 p1 base W L vs w) (hL : L 3 = false) : w.ownsRow base 3 1 v0 n xs := by
  have := h.own
  rw [hL] at this
  simpa using this
theorem App.below (h : App B3 g4 v0 n xs x p0 p1 base W L vs w) (hb : Below w.heap.size w w') : App B3 g4 v0 n xs x p0 p1 base W L vs w' := by
  refine ⟨hb.os.trans h.os, hb.tape.trans h.tape, hb.output.trans h.output, Nat.le_trans h.size hb.size, fun k h1 h2 h3 h4 => (hb.block k (Nat.lt_of_lt_of_le h1 h.size)).trans (h.block k h1 h2 h3 h4), h.b4.kept hb, h.b3.kept hb, ?_, h.v0, h.v1, fun h1 h2 => ?_, h.v4, h.o5, h.o3⟩
  · have := h.own
    split
    · rename_i hc; rw [if_pos hc] at this; exact own_below this hb
    · rename_i hc; rw [if_neg hc] at this; exact own_below this hb
  · obtain ⟨g, q1, q2, q3⟩ := h.v2 h1 h2
    exact ⟨g, q1, q2.kept hb, q3⟩
theorem App.o0 (h : App B3 g4 v0 n xs x p0 p1 base W L vs w) : App B3 g4 v0 n xs x p0 p1 base W (fun j => decide (j = 0) || L j) (fun j => if j = 0 then v0 else vs j) w :=
  ⟨h.os, h.tape, h.output, h.size, h.block, by simpa using h.b4, by simpa using h.b3, by simpa using h.own, by simp, by simpa using h.v1, by simpa using h.v2, by simpa using h.v4, by simpa using h.o5, fun h' => ⟨by simp, by simpa using (h.o3 (by simpa using h')).2⟩⟩
theorem App.o1 (h : App B3 g4 v0 n xs x p0 p1 base W L vs w) : App B3 g4 v0 n xs x p0 p1 base W (fun j => decide (j = 1) || L j) (fun j => if j = 1 then x else vs j) w :=
  ⟨h.os, h.tape, h.output, h.size, h.block, by simpa using h.b4, by simpa using h.b3, by simpa using h.own, by simpa using h.v0, by simp, by simpa using h.v2, by simpa using h.v4, by simpa using h.o5, by simpa using h.o3⟩
theorem App.o2 (h : App B3 g4 v0 n xs x p0 p1 base W L vs w) : App B3 g4 v0 n xs x p0 p1 base W (fun j => decide (j = 2) || L j) (fun j => if j = 2 then .slice (some ⟨w.heap.size, 0, none⟩) 1 1 else vs j) (w.alloc (.cells #[x] 3)) := by
  have hk := h.below (w' := w.alloc (.cells #[x] 3)) (up_alloc up0 _)
  exact ⟨hk.os, hk.tape, hk.output, hk.size, hk.block, by simpa using hk.b4, by simpa using hk.b3, by simpa using hk.own, by simpa using hk.v0, by simpa using hk.v1, fun _ _ => ⟨w.heap.size, by simp, Box.new rfl, h.size⟩, by simpa using hk.v4, by simpa using hk.o5, fun h' => ⟨by simpa using (hk.o3 (by simpa using h')).1, by simp⟩⟩
theorem App.o4 (h : App B3 g4 v0 n xs x p0 p1 base W L vs w) : App B3 g4 v0 n xs x p0 p1 base W (fun j => decide (j = 4) || L j) (fun j => if j = 4 then .agg p1 else vs j) w :=
  ⟨h.os, h.tape, h.output, h.size, h.block, by simpa using h.b4, by simpa using h.b3, by simpa using h.own, by simpa using h.v0, by simpa using h.v1, by simpa using h.v2, by simp, by simpa using h.o5, by simpa using h.o3⟩
theorem App.o3' (h : App B3 g4 v0 n xs x p0 p1 base W L vs w) (hL : L 3 = false) (h0 : L 0 = true) (h2 : L 2 = true) {v : Value} (ho : w'.ownsRow base 3 1 v (n + 1) (xs ++ [x])) (hg : w.grownBy w' v0.ownBlock) :
    App B3 g4 v0 n xs x p0 p1 base W (fun j => decide (j = 3) || L j) (fun j => if j = 3 then v else vs j) w' := by
  have hO := h.own0 hL
  have h5 := h.l5 hL
  have b3 := h.b3
  rw [h5] at b3
  refine ⟨hg.os.trans h.os, hg.tape.trans h.tape, hg.output.trans h.output, Nat.le_trans h.size hg.size, fun k q1 q2 q3 q4 => (hg.block k (Nat.lt_of_lt_of_le q1 h.size) q4).trans (h.block k q1 q2 q3 q4), ?_, ?_, by simpa using ho, by simpa using h.v0, by simpa using h.v1, by simp, by simpa using h.v4, by simp, by simp [h0, h2]⟩
  · simpa using h.b4.grown hg (box_not_own h.b4 (by decide) hO)
  · have := b3.grown hg (box_not_own b3 (by decide) hO)
    simpa [h5] using this
theorem App.o5' (h : App B3 g4 v0 n xs x p0 p1 base W L vs w) (hL : L 3 = true) (h34 : g4 ≠ B3) (u : Value) (hu : vs 3 = u) :
    App B3 g4 v0 n xs x p0 p1 base W (fun j => decide (j = 5) || L j) (fun j => if j = 5 then undef else vs j) (w.setCell ⟨B3, 0, none⟩ u) := by
  have hO := h.own
  rw [if_pos hL] at hO
  refine ⟨h.os, h.tape, h.output, by simpa using h.size, fun k q1 q2 q3 q4 => (Below.heap_setCell w ⟨B3, 0, none⟩ u k q2).trans (h.block k q1 q2 q3 q4), ?_, ?_, ?_, by simpa using h.v0, by simpa using h.v1, by simp [hL], by simpa using h.v4, by simp [hL], by simpa using h.o3⟩
  · simpa using h.b4.far (p := ⟨B3, 0, none⟩) h34 u
  · simpa [hu] using Box.put1 h.b3
  · simpa [hL] using own_set hO h.b3 (by decide)
theorem App.o6 {t0 t1 u0 u1 : Value} (h : App B3 g4 v0 n xs x #[t0, t1] #[u0, u1] base W L vs w) (hL : L 6 = false) (h34 : B3 ≠ g4) (hW : g4 < W.heap.size) :
    App B3 g4 v0 n xs x #[t0, t1] #[u0, u1] base W (fun j => decide (j = 6) || L j) (fun j => if j = 6 then undef else vs j) ((w.setCell ⟨g4, 0, none⟩ u0).setCell ⟨g4, 1, none⟩ u1) := by
  have b4 := h.b4
  rw [hL] at b4
  have b4 : Box w g4 89 #[t0, t1] := by simpa using b4
  refine ⟨h.os, h.tape, h.output, by simpa using h.size, fun k q1 q2 q3 q4 => (Below.heap_setCell _ ⟨g4, 1, none⟩ u1 k q3).trans ((Below.heap_setCell w ⟨g4, 0, none⟩ u0 k q3).trans (h.block k q1 q2 q3 q4)), ?_, ?_, ?_, by simpa using h.v0, by simpa using h.v1, ?_, by simpa using h.v4, by simpa using h.o5, by simpa using h.o3⟩
  · simpa using Box.put2 (u0 := u0) (u1 := u1) b4
  · simpa using (h.b3.far (p := ⟨g4, 0, none⟩) h34 u0).far (p := ⟨g4, 1, none⟩) h34 u1
  · have := h.own
    cases hc : L 3 with
    | true =>
      rw [if_pos hc] at this
      simpa [hc] using own_set (own_set this b4 (by decide)) (b4.put 0 u0) (by decide)
    | false =>
      rw [hc] at this
      simpa [hc] using own_set (own_set (by simpa using this) b4 (by decide)) (b4.put 0 u0) (by decide)
  · intro h1 h2
    obtain ⟨g, q1, q2, q3⟩ := h.v2 (by simpa using h1) (by simpa using h2)
    have hne : g ≠ g4 := by omega
    exact ⟨g, by simpa using q1, (q2.far (p := ⟨g4, 0, none⟩) hne u0).far (p := ⟨g4, 1, none⟩) hne u1, q3⟩
end
end Go.Proofs.YtonekgefegfapaaGreat
