/-
  ITERATORS THAT KEEP CELLS OF THEIR OWN, and write them between the rounds: what such a one is told of a round (SeqTop), and the law of a loop over it that is never left early. Conditions: the loop is an outermost one; its body changes one old block alone.
-/
import Derived.RangeFuncNested
import Derived.RangeFuncBox
import Derived.RangeFuncBound
import Derived.RangeFuncCalls
import Derived.RangeFuncLeaves
import Derived.Shelf.Abstract
import Derived.WalkKit
import Derived.OwnWalkIn
import Derived.Test.YtkhfkmfofhnmdaaCy
namespace Go.Proofs.Ytkhfkmfofhnmdaa
open Go.RowKit Go.Shelf

/-- I lasts, whatever becomes of the blocks from B on. -/
def TopFrom {β : Type} (B : Nat) (I : β → World → Prop) : Prop := ∀ s W W' row, I s W → W.grownBy W' row → (∀ r, row = some r → B ≤ r) → I s W'
/-- All blocks but l and q lie as they lay. -/
structure But (l q : Nat) (W W' : World) : Prop where
  os : W'.os = W.os
  tape : W'.tape = W.tape
  output : W'.output = W.output
  size : W.heap.size ≤ W'.heap.size
  block : ∀ k, k < W.heap.size → k ≠ l → k ≠ q → W'.heap[k]? = W.heap[k]?
theorem But.trans {l q : Nat} {A B C : World} (h : But l q A B) (k : But l q B C) : But l q A C :=
  ⟨k.os.trans h.os, k.tape.trans h.tape, k.output.trans h.output, Nat.le_trans h.size k.size, fun i hi h1 h2 => (k.block i (Nat.lt_of_lt_of_le hi h.size) h1 h2).trans (h.block i hi h1 h2)⟩
theorem But.of_grown {l q : Nat} {A B : World} (h : A.grownBy B (some q)) : But l q A B := ⟨h.os, h.tape, h.output, h.size, fun i hi _ h2 => h.block i hi (fun e => h2 (Option.some.inj e))⟩
theorem But.putObj (l q : Nat) (W : World) (o : Obj) : But l q W (W.putObj l o) := ⟨rfl, rfl, rfl, by simp, fun k _ h1 _ => World.putObj_heap_other h1⟩
theorem But.box {l q : Nat} {W W' : World} {g : Nat} {t : TypeId} {cs : Array Value} (h : But l q W W') (hb : Box W g t cs) (h1 : g ≠ l) (h2 : g ≠ q) : Box W' g t cs := (h.block g hb.lt h1 h2).trans hb

/-- What an iterator is owed by a round: all blocks lie on but the loop's record l, and q. The loop is never left early. -/
def SeqTop {α : Type} (F : Fence) (n : Nat) (P : Program) (g : Nat) (lb : Array Value) (encs : α → Array Value) (q : Nat) (S : List α → Prop) (N : Nat) (w : World) : Prop :=
  ∀ (l : Nat) (J : List α → World → Prop) (W : World), Below w.heap.size w W → w.heap.size ≤ l → l < W.heap.size → TopFrom W.heap.size J →
    (∀ pre x W1, J pre W1 → pre.length < N → YieldAt F (n - 1) P l (encs x) W1 fun e W' => e = .returned (.bool true) ∧ J (pre ++ [x]) W' ∧ But l q W1 W') → J [] W →
    CallsIn F n P g (#[.func (.yield l) #[] #[]] ++ lb) W fun e W' => (∃ v, e = .returned v) ∧ ∃ xs, S xs ∧ J xs W'

variable {F : Fence} {n : Nat} {P : Program}

set_option maxHeartbeats 1000000 in
/-- A loop over such an iterator, which is never left early, and whose variables are no boxes. -/
theorem wpIn_range_top {α : Type} {g : Operand} {ps : Array Tmp} {assign body : Code} {Q : Exit → Act → World → Prop} {a : Act} {w w0 : World} {q : Nat}
    (hro : F.round = none) (h1 : 1 ≤ n) {gf : Nat} {lb : Array Value} (hg : a.eval g = .func (.func gf) #[] lb) (hF : F.fn gf) (eg : ∀ args w, (callFunc gf args).run P w = .ok (.enter gf args) w)
    {encs : α → Array Value} {S : List α → Prop} {N : Nat} (hseq : SeqTop F (n - 1) P gf lb encs q S N w0) (hb0 : Below w0.heap.size w0 w) (hps : ∀ x, (encs x).size = ps.size) (hq : q < w.heap.size)
    (I : List α → World → Prop) (hI : TopFrom w.heap.size I) (h0 : I [] w)
    (Stt : α → Act → World → Prop) (hStt : ∀ x a' X Y row, Stt x a' X → X.grownBy Y row → (∀ r, row = some r → ∃ o : Obj, X.heap[r]? = some o ∧ o.isCells = false) → Stt x a' Y)
    (hassign : ∀ (l : Nat) (pre : List α) (x : α) (W : World) (K : Act → World → Prop), I pre W → (∀ a' W', W.grownBy W' none → Stt x a' W' → K a' W') → assign.wpIn (F.inRound l) (n - 1 - 1) P (Exit.then K (fun _ _ _ => False)) { tmps := (ps.zip (encs x)).foldl (fun t (p, v) => t.setIfInBounds p v) a.tmps, defers := [] } W)
    (hbody : ∀ (l : Nat) (pre : List α) (x : α) (a' : Act) (W : World), w.heap.size < l → I pre W → Stt x a' W → pre.length < N → body.wpIn (F.inRound l) (n - 1 - 1) P
      (fun e _ W' => e = .normal ∧ I (pre ++ [x]) W' ∧ W.grownBy W' (some q)) a' W)
    (hdone : ∀ (D : Nat) (xs : List α) (W : World), w.heap.size ≤ D → S xs → I xs W → W.heap[D]? = some (.deferred (some [])) → Q .normal { a with defers := { target := .collected D, args := #[] } :: a.defers } W) :
    (Code.rangeFunc g ps assign body).wpIn F n P Q a w := by
  apply wpIn_rangeFunc
  intro fn hfn
  rw [hro]
  obtain ⟨L, hL⟩ : ∃ L : LoopState → Loop, L = fun st => { state := st, pending := none, fn, tmps := a.tmps, params := ps, assign, body, defers := w.heap.size } := ⟨_, rfl⟩
  obtain ⟨W1, hW1⟩ : ∃ W1, W1 = (w.alloc (.deferred (some []))).alloc (.loop (L .ready)) := ⟨_, rfl⟩
  have hsz : W1.heap.size = w.heap.size + 2 := by rw [hW1]; simp
  have hl1 : W1.heap[w.heap.size + 1]? = some (.loop (L .ready)) := by
    have := World.alloc_heap_new (w.alloc (.deferred (some []))) (.loop (L .ready))
    rw [World.size_alloc] at this
    rw [hW1]; exact this
  have hd1 : W1.heap[w.heap.size]? = some (.deferred (some [])) := by rw [hW1]; exact (Below.heap_alloc _ _ _ (by simp)).trans (World.alloc_heap_new w _)
  have hbw : Below w.heap.size w W1 := by rw [hW1]; exact ((Below.refl _ w).alloc (Nat.le_refl _) _).alloc (by simp) _
  have hI1 : I [] W1 := hI _ _ _ none h0 (grown_of_below hbw) (by simp)
  have hb1 : Below w0.heap.size w0 W1 := hb0.trans (hbw.mono hb0.size)
  have hs0 := hb0.size
  refine ⟨w.heap.size + 1, [{ target := .collected w.heap.size, args := #[] }], W1, { target := .fn (.func gf) lb, args := #[.func (.yield (w.heap.size + 1)) #[] #[]] }, W1, gf,
    #[.func (.yield (w.heap.size + 1)) #[] #[]] ++ lb, W1, ?_, ?_, ?_, ?_, fun _ => h1, ?_⟩
  · rw [hW1, hL]; exact run_enterLoop_outer _ _ _ _ _
  · simp only [resolve, hg]
    simp [go_sem]
  · intro f' hf'; simp [Target.leads] at hf'; subst hf'; exact hF
  · simp [invoke, go_sem, eg]
  refine (hseq (w.heap.size + 1) (fun pre W => I pre W ∧ W.heap[w.heap.size + 1]? = some (.loop (L .ready)) ∧ W.heap[w.heap.size]? = some (.deferred (some []))) W1 hb1 (by omega) (by omega) ?_ ?_ ⟨hI1, hl1, hd1⟩).mono ?_
  · rintro s A B row ⟨hi, hl, hd⟩ hg' hr
    have hne : ∀ k o, A.heap[k]? = some o → k < W1.heap.size → B.heap[k]? = some o := fun k o ho hk => (hg'.block k (Array.getElem?_eq_some_iff.1 ho).1 (fun e => by have := hr k e.symm; omega)).trans ho
    exact ⟨hI s A B row hi hg' (fun r e => by have := hr r e; omega), hne _ _ hl (by omega), hne _ _ hd (by omega)⟩
  · rintro pre x W ⟨hi, hl, hd⟩ hlen
    have hlt : w.heap.size + 1 < W.heap.size := (Array.getElem?_eq_some_iff.1 hl).1
    have hy := run_yield (P := P) (args := encs x) hl (by rw [hL]; exact hps x)
    rw [hL] at hy
    refine ⟨fn, _, assign, body, hy, roundIn_of_wpIn hfn (hassign (w.heap.size + 1) pre x W _ hi ?_)⟩
    clear hy
    intro a' W' hg hst
    have hl' : W'.heap[w.heap.size + 1]? = some (.loop (L .ready)) := (hg.block _ hlt (by simp)).trans hl
    have hd' : W'.heap[w.heap.size]? = some (.deferred (some [])) := (hg.block _ (by omega) (by simp)).trans hd
    have hlt' : w.heap.size + 1 < W'.heap.size := Nat.lt_of_lt_of_le hlt hg.size
    have hi' : I pre W' := hI _ _ _ none hi hg (by simp)
    refine ⟨_, run_beginRound hl' (by rw [hL]), ?_⟩
    obtain ⟨W2, hW2⟩ : ∃ W2, W2 = W'.putObj (w.heap.size + 1) (.loop { L .ready with state := .busy }) := ⟨_, rfl⟩
    rw [← hW2]
    have hl2 : W2.heap[w.heap.size + 1]? = some (.loop { L .ready with state := .busy }) := by rw [hW2]; exact World.putObj_heap_same hlt'
    have hd2 : W2.heap[w.heap.size]? = some (.deferred (some [])) := by rw [hW2]; exact (World.putObj_heap_other (by omega)).trans hd'
    have hi2 : I pre W2 := by rw [hW2]; exact hI _ _ _ (some (w.heap.size + 1)) hi' (grownBy_putObj' _ _ _) (fun r e => by cases e; omega)
    have hst2 : Stt x a' W2 := by rw [hW2]; exact hStt _ _ _ _ (some (w.heap.size + 1)) hst (grownBy_putObj' _ _ _) (fun r e => by cases e; exact ⟨_, hl', rfl⟩)
    have hb2 : But (w.heap.size + 1) q W W2 := by rw [hW2]; exact (But.of_grown (grown_row hg)).trans (But.putObj _ _ _ _)
    refine wpIn_mono (hbody _ pre x a' W2 (by omega) hi2 hst2 hlen) ?_
    rintro e a3 W3 ⟨rfl, hi3, hg3⟩
    have hl3 := (hg3.block _ (Array.getElem?_eq_some_iff.1 hl2).1 (fun e => by have := Option.some.inj e; omega)).trans hl2
    have hd3 := (hg3.block _ (Array.getElem?_eq_some_iff.1 hd2).1 (fun e => by have := Option.some.inj e; omega)).trans hd2
    have hr3 := run_endRound (P := P) none hl3
    refine ⟨_, _, hr3, rfl, ⟨hI _ _ _ (some (w.heap.size + 1)) hi3 (grownBy_putObj' _ _ _) (fun r e => by cases e; omega), ?_, (World.putObj_heap_other (by omega)).trans hd3⟩, hb2.trans ((But.of_grown hg3).trans (But.putObj _ _ _ _))⟩
    rw [hL]
    exact World.putObj_heap_same (Array.getElem?_eq_some_iff.1 hl3).1
  · rintro e W2 ⟨⟨v, rfl⟩, xs, hS, hi, hl, hd⟩
    have := run_endLoop (P := P) hl (by rw [hL]; simp)
    rw [hL] at this
    exact ⟨none, _, this, hdone _ xs _ (Nat.le_refl _) hS (hI _ _ _ (some (w.heap.size + 1)) hi (grownBy_putObj' _ _ _) (fun r e => by cases e; omega)) ((World.putObj_heap_other (by omega)).trans hd)⟩

end Go.Proofs.Ytkhfkmfofhnmdaa
