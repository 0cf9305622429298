/-
  ITERATORS WHOSE BODY RANGES OVER ANOTHER ITERATOR: what such a one is told of a round (SeqOwn), and the law of a loop over it that is never left early. Conditions: the loop is an outermost one.
-/
import Derived.RangeFuncNested
import Derived.RangeFuncBox
import Derived.RangeFuncBound
import Derived.RangeFuncCalls
import Derived.RangeFuncLeaves
import Derived.Shelf.Abstract
import Derived.WalkKit
import Derived.OwnWalkIn
namespace Go.Proofs.Ytojbdmdjepgpjaa
open Go.RowKit Go.Shelf

/-- Above block l, whatever is no cells and each box of type t lies as it lay. -/
structure Above (t : TypeId) (l : Nat) (W W' : World) : Prop where
  size : W.heap.size ≤ W'.heap.size
  same : ∀ k o, l < k → W.heap[k]? = some o → (o.isCells = false ∨ ∃ v, o = .cells #[v] t (0, 0)) → W'.heap[k]? = some o
theorem Above.refl (t : TypeId) (l : Nat) (W : World) : Above t l W W := ⟨Nat.le_refl _, fun _ _ _ h _ => h⟩
theorem Above.trans {t : TypeId} {l : Nat} {A B C : World} (h : Above t l A B) (k : Above t l B C) : Above t l A C := ⟨Nat.le_trans h.size k.size, fun i o hi ho hc => k.same i o hi (h.same i o hi ho hc) hc⟩
theorem Above.putObj (t : TypeId) (l : Nat) (W : World) (o : Obj) : Above t l W (W.putObj l o) := ⟨by simp, fun k _ hk ho _ => (World.putObj_heap_other (by omega)).trans ho⟩
theorem Above.of_grownBy {t : TypeId} {l : Nat} {W W' : World} {row : Option Nat} (hg : W.grownBy W' row) (hr : ∀ r, row = some r → l < r → ∃ cs t' m, W.heap[r]? = some (.cells cs t' m) ∧ t' ≠ t) : Above t l W W' :=
  ⟨hg.size, fun k o hk ho hc => (hg.block k (Array.getElem?_eq_some_iff.1 ho).1 (fun e => by
    obtain ⟨cs, t', m, h1, h2⟩ := hr k e.symm hk
    rw [ho] at h1
    cases h1
    rcases hc with hc | ⟨v, hc⟩
    · cases hc
    · cases hc; exact h2 rfl)).trans ho⟩
theorem Above.boxed {t : TypeId} {l : Nat} {W W' : World} (h : Above t l W W') {B : Nat} {v : Value} (hB : l < B) (hb : Boxed W B t v) : Boxed W' B t v := h.same B _ hB hb (.inr ⟨v, rfl⟩)
theorem Above.keeps {t : TypeId} {l n : Nat} {W W' : World} (h : Above t l W W') (hn : l < n) : KeepsFrom n W W' := ⟨h.size, fun k o hk ho hc => h.same k o (by omega) ho (.inl hc)⟩

/-- What an iterator that itself lays loops is owed by a round: what lay ahead lies on, and its own blocks (they lie above the loop's record) are left alone. The loop is never left early. -/
def SeqOwn {α : Type} (F : Fence) (n : Nat) (P : Program) (g : Nat) (lb : Array Value) (encs : α → Array Value) (t : TypeId) (S : List α → Prop) (N : Nat) (w : World) : Prop :=
  ∀ (l : Nat) (J : List α → World → Prop) (W : World), Below w.heap.size w W → w.heap.size ≤ l → l < W.heap.size → OwnFrom W.heap.size J →
    (∀ pre x W1, J pre W1 → pre.length < N → YieldAt F (n - 1) P l (encs x) W1 fun e W' => e = .returned (.bool true) ∧ J (pre ++ [x]) W' ∧ Below w.heap.size W1 W' ∧ Above t l W1 W') → J [] W →
    CallsIn F n P g (#[.func (.yield l) #[] #[]] ++ lb) W fun e W' => (∃ v, e = .returned v) ∧ ∃ xs, S xs ∧ J xs W'

variable {F : Fence} {n : Nat} {P : Program}

set_option maxHeartbeats 1000000 in
/-- A loop over such an iterator, which is never left early, and whose variables are no boxes. -/
theorem wpIn_range_own {α : Type} {g : Operand} {ps : Array Tmp} {assign body : Code} {Q : Exit → Act → World → Prop} {a : Act} {w w0 : World} {t : TypeId}
    (hro : F.round = none) (h1 : 1 ≤ n) {gf : Nat} {lb : Array Value} (hg : a.eval g = .func (.func gf) #[] lb) (hF : F.fn gf) (eg : ∀ args w, (callFunc gf args).run P w = .ok (.enter gf args) w)
    {encs : α → Array Value} {S : List α → Prop} {N : Nat} (hseq : SeqOwn F (n - 1) P gf lb encs t S N w0) (hb0 : Below w0.heap.size w0 w) (hps : ∀ x, (encs x).size = ps.size)
    (I : List α → World → Prop) (hI : OwnFrom w.heap.size I) (h0 : I [] w) (a₁ : α → Act)
    (hassign : ∀ (l : Nat) (x : α) (W : World) (K : Act → World → Prop), K (a₁ x) W → assign.wpIn (F.inRound l) (n - 1 - 1) P (Exit.then K (fun _ _ _ => False)) { tmps := (ps.zip (encs x)).foldl (fun t (p, v) => t.setIfInBounds p v) a.tmps, defers := [] } W)
    (hbody : ∀ (l : Nat) (pre : List α) (x : α) (W : World), w.heap.size < l → I pre W → pre.length < N → body.wpIn (F.inRound l) (n - 1 - 1) P
      (fun e _ W' => e = .normal ∧ I (pre ++ [x]) W' ∧ Below w0.heap.size W W' ∧ Above t l W W' ∧ KeepsFrom w.heap.size W W') (a₁ x) W)
    (hdone : ∀ (D : Nat) (xs : List α) (W : World), w.heap.size ≤ D → S xs → I xs W → W.heap[D]? = some (.deferred (some [])) → Q .normal { a with defers := { target := .collected D, args := #[] } :: a.defers } W) :
    (Code.rangeFunc g ps assign body).wpIn F n P Q a w := by
  apply wpIn_rangeFunc
  intro fn hfn
  rw [hro]
  obtain ⟨L, hL⟩ : ∃ L : LoopState → Loop, L = fun st => { state := st, pending := none, fn, tmps := a.tmps, params := ps, assign, body, defers := w.heap.size } := ⟨_, rfl⟩
  obtain ⟨W1, hW1⟩ : ∃ W1, W1 = (w.alloc (.deferred (some []))).alloc (.loop (L .ready)) := ⟨_, rfl⟩
  have hsz : W1.heap.size = w.heap.size + 2 := by rw [hW1]; simp
  have hl1 : W1.heap[w.heap.size + 1]? = some (.loop (L .ready)) := by
    have := World.alloc_heap_new (w.alloc (.deferred (some []))) (.loop (L .ready))
    rw [World.size_alloc] at this
    rw [hW1]; exact this
  have hd1 : W1.heap[w.heap.size]? = some (.deferred (some [])) := by rw [hW1]; exact (Below.heap_alloc _ _ _ (by simp)).trans (World.alloc_heap_new w _)
  have hI1 : I [] W1 := by rw [hW1]; exact hI.alloc _ (hI.alloc _ h0)
  have hb1 : Below w0.heap.size w0 W1 := by
    rw [hW1]; exact hb0.trans ((((Below.refl _ w).alloc (Nat.le_refl _) _).alloc (by simp) _).mono hb0.size)
  have hs0 := hb0.size
  refine ⟨w.heap.size + 1, [{ target := .collected w.heap.size, args := #[] }], W1, { target := .fn (.func gf) lb, args := #[.func (.yield (w.heap.size + 1)) #[] #[]] }, W1, gf,
    #[.func (.yield (w.heap.size + 1)) #[] #[]] ++ lb, W1, ?_, ?_, ?_, ?_, fun _ => h1, ?_⟩
  · rw [hW1, hL]; exact run_enterLoop_outer _ _ _ _ _
  · simp only [resolve, hg]
    simp [go_sem]
  · intro f' hf'; simp [Target.leads] at hf'; subst hf'; exact hF
  · simp [invoke, go_sem, eg]
  refine (hseq (w.heap.size + 1) (fun pre W => I pre W ∧ W.heap[w.heap.size + 1]? = some (.loop (L .ready)) ∧ W.heap[w.heap.size]? = some (.deferred (some []))) W1 hb1 (by omega) (by omega) ?_ ?_ ⟨hI1, hl1, hd1⟩).mono ?_
  · rintro s A B row ⟨hi, hl, hd⟩ hg' hr
    have hne : ∀ k o, A.heap[k]? = some o → k < W1.heap.size → B.heap[k]? = some o := fun k o ho hk => (hg'.block k (Array.getElem?_eq_some_iff.1 ho).1 (fun e => by have := (hr k e.symm).1; omega)).trans ho
    exact ⟨hI s A B row hi hg' (fun r e => ⟨by have := (hr r e).1; omega, (hr r e).2⟩), hne _ _ hl (by omega), hne _ _ hd (by omega)⟩
  · rintro pre x W ⟨hi, hl, hd⟩ hlen
    have hlt : w.heap.size + 1 < W.heap.size := (Array.getElem?_eq_some_iff.1 hl).1
    have hy := run_yield (P := P) (args := encs x) hl (by rw [hL]; exact hps x)
    rw [hL] at hy
    refine ⟨fn, _, assign, body, hy, roundIn_of_wpIn hfn (hassign _ x W _ ?_)⟩
    clear hy
    refine ⟨_, run_beginRound hl (by rw [hL]), ?_⟩
    obtain ⟨W2, hW2⟩ : ∃ W2, W2 = W.putObj (w.heap.size + 1) (.loop { L .ready with state := .busy }) := ⟨_, rfl⟩
    rw [← hW2]
    have hl2 : W2.heap[w.heap.size + 1]? = some (.loop { L .ready with state := .busy }) := by rw [hW2]; exact World.putObj_heap_same hlt
    have hd2 : W2.heap[w.heap.size]? = some (.deferred (some [])) := by rw [hW2]; exact (World.putObj_heap_other (by omega)).trans hd
    have hi2 : I pre W2 := by rw [hW2]; exact hI.putObj _ hi (by omega) hl rfl
    have hk2 : Below w0.heap.size W W2 := by rw [hW2]; exact belowK_b (w := w) hs0 W _ _ _ (by omega) hl rfl rfl
    have ha2 : Above t (w.heap.size + 1) W W2 := by rw [hW2]; exact Above.putObj _ _ _ _
    refine wpIn_mono (hbody _ pre x W2 (by omega) hi2 hlen) ?_
    rintro e a3 W3 ⟨rfl, hi3, hk3, ha3, hf3⟩
    have hl3 := hf3.same _ _ (by omega) hl2 rfl
    have hd3 := hf3.same _ _ (Nat.le_refl _) hd2 rfl
    have hr3 := run_endRound (P := P) none hl3
    refine ⟨_, _, hr3, rfl, ⟨hI.putObj _ hi3 (by omega) hl3 rfl, ?_, (World.putObj_heap_other (by omega)).trans hd3⟩, hk2.trans (hk3.trans (belowK_b (w := w) hs0 W3 _ _ _ (by omega) hl3 rfl rfl)), ha2.trans (ha3.trans (Above.putObj _ _ _ _))⟩
    rw [hL]
    exact World.putObj_heap_same (Array.getElem?_eq_some_iff.1 hl3).1
  · rintro e W2 ⟨⟨v, rfl⟩, xs, hS, hi, hl, hd⟩
    have := run_endLoop (P := P) hl (by rw [hL]; simp)
    rw [hL] at this
    exact ⟨none, _, this, hdone _ xs _ (Nat.le_refl _) hS (hI.putObj _ hi (by omega) hl rfl) ((World.putObj_heap_other (by omega)).trans hd)⟩

end Go.Proofs.Ytojbdmdjepgpjaa
