/-
  PLAIN: lists of any length (out of c4's Dm).
-/
import Derived.Test.YtonekgefegfapaaGreatPl
namespace Go.Proofs.YtonekgefegfapaaGreat
open Go.RowKit

def RowsAny {α : Type} (w : World) (v : Value) (sz : Nat) (cells : α → List Value) (l : List α) : Prop :=
  ∃ A cap, v = .slice A l.length cap ∧ l.length ≤ cap ∧ cap ≤ 9223372036854775807 ∧
    (l ≠ [] → ∃ b off, A = some ⟨b, off, none⟩ ∧ b < w.heap.size ∧ ∀ i x, l[i]? = some x → ∀ j u, (cells x)[j]? = some u → w.cell? ⟨b, off + i * sz + j, none⟩ = some u)
theorem RowsAny.rows {α : Type} {w : World} {v : Value} {sz : Nat} {cells : α → List Value} {l : List α} (h : RowsAny w v sz cells l) (hn : l.length ≤ 1000) : RowsAt w v sz cells l := ⟨hn, h⟩
theorem RowsAny.form {α : Type} {w : World} {v : Value} {sz : Nat} {cells : α → List Value} {l : List α} (h : RowsAny w v sz cells l) : ∃ A cap, v = .slice A l.length cap ∧ l.length ≤ cap ∧ cap ≤ 9223372036854775807 := by
  obtain ⟨A, cap, h1, h2, h3, _⟩ := h
  exact ⟨A, cap, h1, h2, h3⟩
theorem RowsAny.kept {α : Type} {w w' : World} {v : Value} {sz : Nat} {cells : α → List Value} {l : List α} (h : RowsAny w v sz cells l) (hb : Below w.heap.size w w') : RowsAny w' v sz cells l := by
  obtain ⟨A, cap, h1, h2, h3, h4⟩ := h
  refine ⟨A, cap, h1, h2, h3, fun hne => ?_⟩
  obtain ⟨b, off, e, hlt, hc⟩ := h4 hne
  exact ⟨b, off, e, Nat.lt_of_lt_of_le hlt hb.size, fun i x hx j u hu => (hb.cell (p := ⟨b, off + i * sz + j, none⟩) hlt).trans (hc i x hx j u hu)⟩
theorem RowsAny.at {α : Type} {w : World} {v : Value} {sz : Nat} {cells : α → List Value} {l : List α} (h : RowsAny w v sz cells l) {A : Option Addr} {n cap : Nat} (hv : v = .slice A n cap) {i : Nat} {x : α} (hx : l[i]? = some x) :
    ∃ b off, A = some ⟨b, off, none⟩ ∧ b < w.heap.size ∧ ∀ j u, (cells x)[j]? = some u → w.cell? ⟨b, off + i * sz + j, none⟩ = some u := by
  obtain ⟨A', cap', h1, _, _, h4⟩ := h
  have hne : l ≠ [] := fun e => by subst e; simp at hx
  obtain ⟨b, off, e, hlt, hc⟩ := h4 hne
  rw [hv] at h1
  injection h1 with hA
  subst hA
  exact ⟨b, off, e, hlt, fun j u hu => hc i x hx j u hu⟩

end Go.Proofs.YtonekgefegfapaaGreat
