/-
  PLAIN, no function of the program is named: a region that draws its order, whose operations read, and whose callees make new memory alone: one walk of the text's order serves every order.
-/
import Derived.WalkKit
import Derived.Deep.QuietTactic
import Derived.BigQuiet
import Derived.Test.YtpmhhdhkhhlfpaaPl
namespace Go.Proofs.Ytpmhhdhkhhlfpaa
open Go.RowKit

/-- A world in which all that lay below block B of W lies as it lay. -/
structure Later (B : Nat) (W : World) where
  w : World
  hs : B ≤ W.heap.size
  h : Below B W w

theorem Later.cell {B : Nat} {W : World} (x : Later B W) (b : Nat) (o : Nat) (h : b < B) : x.w.cell? ⟨b, o, none⟩ = W.cell? ⟨b, o, none⟩ := x.h.cell (p := ⟨b, o, none⟩) h
theorem Later.frozen {B : Nat} {W : World} (x : Later B W) (b : Nat) (o : Nat) (h : b < B) : x.w.frozen? ⟨b, o, none⟩ = W.frozen? ⟨b, o, none⟩ := x.h.frozen (p := ⟨b, o, none⟩) h

theorem Later.calls {P : Program} {f : FuncId} {args : Array Value} {v : Value} {B : Nat} {W : World} (x : Later B W) (h : ∀ w : World, Calls P f args w fun e w' => e = .returned v ∧ Below w.heap.size w w') :
    Calls P f args x.w fun e w'' => e = .returned v ∧ ∃ y : Later B W, w'' = y.w :=
  (h x.w).mono fun _ w'' ⟨he, hb⟩ => ⟨he, ⟨w'', x.hs, x.h.trans (hb.mono (Nat.le_trans x.hs x.h.size))⟩, rfl⟩

theorem wp_region_later {P : Program} {id : Nat} {Q : Exit → Act → World → Prop} {a : Act} {W : World} {l : List Oper} (hm : P.follows .mixedOrders = true) (hB : Region.lexB .any l.toArray = true)
    (h : wpQuiet P l.toArray (fun w' => ∃ x : Later W.heap.size W, w' = x.w) (fun a' => ∀ w', Below W.heap.size W w' → Q .normal a' w') l a) : (Code.region id l.toArray true).wp P Q a W :=
  wp_region_quiet (C := fun w' => ∃ x : Later W.heap.size W, w' = x.w) hm hB ⟨⟨W.drew, Nat.le_refl _, (Below.refl _ _).drew⟩, rfl⟩ (by
    have hQ : ∀ (l' : List Oper) (a' : Act), wpQuiet P l.toArray (fun w' => ∃ x : Later W.heap.size W, w' = x.w) (fun a' => ∀ w', Below W.heap.size W w' → Q .normal a' w') l' a' →
        wpQuiet P l.toArray (fun w' => ∃ x : Later W.heap.size W, w' = x.w) (fun a' => ∀ w', (∃ x : Later W.heap.size W, w' = x.w) → Q .normal a' w') l' a' := by
      intro l'
      induction l' with
      | nil => intro a' h w' ⟨x, hx⟩; subst hx; exact h _ x.h
      | cons o r ih =>
        intro a' h
        unfold wpQuiet at h ⊢
        split
        · rename_i hw; rw [if_pos hw] at h; exact Oper.quiet_mono ih h
        · rename_i hw; rw [if_neg hw] at h; exact ih _ h
    exact hQ _ _ (by simpa using h))

end Go.Proofs.Ytpmhhdhkhhlfpaa
