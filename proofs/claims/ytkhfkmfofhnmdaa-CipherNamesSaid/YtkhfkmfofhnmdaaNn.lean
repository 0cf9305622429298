/-
  CipherNames holds: the document's examples and errors. No condition.
-/
import Derived.OrdersIn
import Derived.TacticsIn
import Derived.Test.YtkhfkmfofhnmdaaRf
import Derived.Test.YtkhfkmfofhnmdaaDa
import Derived.Test.YtkhfkmfofhnmdaaDb
import Derived.Test.YtkhfkmfofhnmdaaEm
import Derived.Test.YtkhfkmfofhnmdaaDe
import Derived.Test.YtkhfkmfofhnmdaaDn
import Derived.ArgAppend
import Derived.Deep.CutBlock
namespace Go.Proofs.Ytkhfkmfofhnmdaa
open Go.RowKit

theorem callsIn_round {P : Program} {f : FuncId} {args : Array Value} {w : World} {R : Ending → World → Prop} (l n : Nat) (h : Calls P f args w R) : CallsIn (Fence.wide.inRound l) n P f args w R := (callsIn_wide (n := n)).2 h
theorem rowsIn_round {P : Program} {row : String} {args : Array Value} {w : World} {R : Value → World → Prop} (l n : Nat) (h : Rows P row args w R) : RowsIn (Fence.wide.inRound l) n P row args w R := fun c cs _ => by
  obtain ⟨v, w', r, s⟩ := h c cs
  exact ⟨v, w', r, stepsIn_wide.2 s⟩
/-- No operation is a defer statement. -/
def plainB (ops : Array Oper) : Bool := ops.toList.all fun o => match o.op with | .defer _ => false | _ => true
section
variable {P : Program} {Q Q' : Exit → Act → World → Prop} {l n : Nat}
theorem operIn_of {o : Oper} {a : Act} {w : World} {K K' : Act → World → Prop} (hd : ∀ c, o.op ≠ .defer c) (h : ∀ a w, K a w → K' a w) (hQ : ∀ e a w, Q e a w → Q' e a w) (hL : ¬ LetsOut Q) (hh : o.wp P a w K Q) : o.wpIn (Fence.wide.inRound l) n P a w K' Q' := by
  unfold Oper.wp at hh
  unfold Oper.wpIn
  refine ⟨fun _ _ => trivial, ?_⟩
  rw [Fence.inRound_round, Oper.semAt_some l _ _ hd]
  generalize (execOp a.eval o).run P w = r at *
  cases r with
  | ok x w' =>
    cases x <;> simp only [Oper.upon, Oper.uponIn] at hh ⊢ <;>
      first
        | exact h _ _ hh
        | exact ⟨fun hx => (by cases hx), callsIn_round l _ (Calls.mono hh (fun e w'' he => by cases e <;> first | exact h _ _ he | exact hQ _ _ _ he | exact absurd he hL))⟩
        | exact ⟨fun hx => (by cases hx), rowsIn_round l _ (Rows.mono hh (fun _ _ he => h _ _ he))⟩
  | halt x w' => cases x <;> simp only [Oper.upon, Oper.uponIn] at hh ⊢ <;> exact hQ _ _ _ hh
theorem wpAnyIn_of {md : Region.Mode} {ops : Array Oper} (hp : plainB ops = true) (hQ : ∀ e a w, Q e a w → Q' e a w) (hL : ¬ LetsOut Q) : ∀ (fuel : Nat) (listed : Array Bool) (a : Act) (w : World), wpAny P md ops Q fuel listed a w → wpAnyIn (Fence.wide.inRound l) n P md ops Q' fuel listed a w := by
  intro fuel
  induction fuel with
  | zero => intro listed a w h; exact ⟨h.1, hQ _ _ _ h.2⟩
  | succ fuel ih =>
    intro listed a w h
    refine ⟨fun h0 => hQ _ _ _ (h.1 h0), fun i hi => ?_⟩
    have hh := h.2 i hi
    unfold wpOp at hh
    unfold wpOpIn
    split
    · rename_i ho
      simp only [ho] at hh
      exact ih _ _ _ hh
    · rename_i o ho
      simp only [ho] at hh
      have hd : ∀ c, o.op ≠ .defer c := fun c hc => by
        have := List.all_eq_true.1 hp o (Array.mem_toList_iff.2 (Array.mem_of_getElem? ho))
        rw [hc] at this
        cases this
      split
      · rename_i hw
        rw [if_pos hw] at hh
        exact operIn_of hd (fun a w => ih _ a w) hQ hL (hh.resolve_right fun x => hL x.2)
      · rename_i hw
        rw [if_neg hw] at hh
        exact ⟨fun _ _ => trivial, ih _ _ _ hh⟩
end

theorem letsOut_no (Q : Act → World → Prop) : ¬ LetsOut (fun e a w => e = Exit.normal ∧ Q a w) := fun ⟨_, _, h, _⟩ => by cases h

/-- **A region that draws its order, by facts, in a round.** -/
theorem wpIn_region_facts {P : Program} {id : Nat} {Q : Exit → Act → World → Prop} {a0 : Act} {w0 : World} {l : List Oper} {ro m : Nat} (n : Nat) (R : World → World → Prop) (F : Nat → Value → World → Prop)
    (hm : P.follows .mixedOrders = true) (hpl : plainB l.toArray = true) (hB : factsB .any l.toArray n = true) (h0 : R w0 w0.drew) (hR : ∀ a b c, R a b → R b c → R a c) (hF : ∀ i v w w', F i v w → R w w' → F i v w')
    (G : Nat → Bool) (hS : ∀ a b, R a b → a.heap.size ≤ b.heap.size) (hG : ∀ i v w, G i = true → F i v w → blk v < w.heap.size)
    (hstep : ∀ (vs : Nat → Value), Each (fun i o => ∀ w : World, R w0 w → (∀ d, d < n → leansOn l.toArray o d = true → F d (vs d) w) →
      if Region.wanted o (yielded l.toArray (putAll (fun _ => true) vs 0 (l.take n) a0).tmps) then Gives P o (putAll (fun _ => true) vs 0 (l.take n) a0) w (fun v w' => R w w' ∧ F i v w' ∧ (G i = true → w.heap.size ≤ blk v)) else F i undef w ∧ R w w ∧ G i = false) 0 (l.take n))
    (htail : ∀ (vs : Nat → Value) (w : World), R w0 w → (∀ d, d < n → F d (vs d) w) → (∀ i j, i < n → j < n → i ≠ j → G i = true → G j = true → blk (vs i) ≠ blk (vs j)) → (∀ i, i < n → G i = true → w0.heap.size ≤ blk (vs i)) → wpList P l.toArray (fun e a w => e = .normal ∧ Q .normal a w) (l.drop n) (putAll (fun _ => true) vs 0 (l.take n) a0) w) :
    (Code.region id l.toArray true).wpIn (Fence.wide.inRound ro) m P Q a0 w0 := by
  refine wpIn_region_any hm (wpAnyIn_of (Q := fun e a w => e = .normal ∧ Q .normal a w) hpl (fun _ _ _ h => by obtain ⟨rfl, h⟩ := h; exact h) (letsOut_no _) _ _ _ _ ?_)
  have hn : n ≤ l.toArray.size := by
    simp only [factsB, Bool.and_eq_true, decide_eq_true_eq] at hB
    exact hB.1.1.1.2
  have inv0 : HeadInv .any l.toArray n (Array.replicate l.toArray.size false) :=
    ⟨by simp, fun j oj _ hl => (by rw [getD_replicate_false] at hl; cases hl), fun t _ ht => getD_in (by simpa using ht) (getD_replicate_false _ _)⟩
  have hun : unl n (Array.replicate l.toArray.size false) = n := by
    unfold unl
    rw [List.countP_eq_length.2]
    · simp
    · intro i _; rw [getD_replicate_false]; rfl
  have hput : putAll (fun i => (Array.replicate l.toArray.size false).getD i false) (fun _ => undef) 0 (l.take n) a0 = a0 := by
    have hg : ∀ (l' : List Oper) (k : Nat) (a : Act), putAll (fun i => (Array.replicate l.toArray.size false).getD i false) (fun _ => undef) k l' a = a := by
      intro l'
      induction l' with
      | nil => intro k a; rfl
      | cons o r ih => intro k a; unfold putAll; rw [getD_replicate_false, if_neg (by simp)]; exact ih _ _
    exact hg _ _ _
  have := wpAny_facts (P := P) (md := .any) (ops := l.toArray) (Q := fun e a w => e = .normal ∧ Q .normal a w) (n := n) (R := R) (F := F) (a0 := a0) (w0 := w0) hB hR hF G hS hG
    (fun i o hi ho vs w hRw hd => by
      have h := Each.get (hstep vs) i o (by rw [List.getElem?_take, if_pos hi]; simpa using ho)
      rw [Nat.zero_add] at h
      exact h w hRw hd)
    (fun vs w hRw hd hDs hLs => htail vs w hRw hd hDs hLs) n (Array.replicate l.toArray.size false) (fun _ => undef) w0.drew inv0 hun h0
    (fun d _ hl => by rw [getD_replicate_false] at hl; cases hl) (fun d e _ _ _ hl => by rw [getD_replicate_false] at hl; cases hl) (fun d _ hl => by rw [getD_replicate_false] at hl; cases hl)
  rw [hput, show n + (l.toArray.size - n) = l.toArray.size by omega] at this
  exact this

theorem wpIn_region_by {P : Program} {id : Nat} {Q : Exit → Act → World → Prop} {a0 : Act} {w0 : World} {l : List Oper} {ro m : Nat} (n : Nat) (Fs : List Fact) (A : (Nat → Value) → Act)
    (hm : P.follows .mixedOrders = true) (hpl : plainB l.toArray = true) (hB : factsB .any l.toArray n = true) (hA : ∀ vs, putAll (fun _ => true) vs 0 (l.take n) a0 = A vs)
    (hstep : ∀ (vs : Nat → Value), Each (fun i o => ∀ w : World, Below w0.heap.size w0 w → (∀ d, d < n → leansOn l.toArray o d = true → (Fs.getD d Fact.any).p (vs d) w) →
      if Region.wanted o (yielded l.toArray (A vs).tmps) = true then Gives P o (A vs) w (fun v w' => Below w.heap.size w w' ∧ (Fs.getD i Fact.any).p v w' ∧ ((Fs.getD i Fact.any).fr = true → w.heap.size ≤ blk v)) else (Fs.getD i Fact.any).p undef w ∧ (Fs.getD i Fact.any).fr = false) 0 (l.take n))
    (htail : ∀ (vs : Nat → Value) (w : World), Below w0.heap.size w0 w → (∀ d, d < n → (Fs.getD d Fact.any).p (vs d) w) → (∀ i j, i < n → j < n → i ≠ j → (Fs.getD i Fact.any).fr = true → (Fs.getD j Fact.any).fr = true → blk (vs i) ≠ blk (vs j)) → (∀ i, i < n → (Fs.getD i Fact.any).fr = true → w0.heap.size ≤ blk (vs i)) → wpList P l.toArray (fun e a w => e = .normal ∧ Q .normal a w) (l.drop n) (A vs) w) :
    (Code.region id l.toArray true).wpIn (Fence.wide.inRound ro) m P Q a0 w0 := by
  refine wpIn_region_facts n (fun w w' => Below w.heap.size w w') (fun i v w => (Fs.getD i Fact.any).p v w) hm hpl hB (Below.refl _ _).drew (fun a b c h k => h.trans (k.mono h.size)) (fun i v w w' h k => (Fs.getD i Fact.any).st v w w' h k) (fun i => (Fs.getD i Fact.any).fr) (fun _ _ h => h.size) (fun i v w h k => (Fs.getD i Fact.any).lt v w h k) ?_ ?_
  · intro vs
    have hg : ∀ (l' : List Oper) (k : Nat), Each (fun i o => ∀ w : World, Below w0.heap.size w0 w → (∀ d, d < n → leansOn l.toArray o d = true → (Fs.getD d Fact.any).p (vs d) w) →
        if Region.wanted o (yielded l.toArray (A vs).tmps) = true then Gives P o (A vs) w (fun v w' => Below w.heap.size w w' ∧ (Fs.getD i Fact.any).p v w' ∧ ((Fs.getD i Fact.any).fr = true → w.heap.size ≤ blk v)) else (Fs.getD i Fact.any).p undef w ∧ (Fs.getD i Fact.any).fr = false) k l' →
        Each (fun i o => ∀ w : World, Below w0.heap.size w0 w → (∀ d, d < n → leansOn l.toArray o d = true → (Fs.getD d Fact.any).p (vs d) w) →
        if Region.wanted o (yielded l.toArray (putAll (fun _ => true) vs 0 (l.take n) a0).tmps) = true then Gives P o (putAll (fun _ => true) vs 0 (l.take n) a0) w (fun v w' => Below w.heap.size w w' ∧ (Fs.getD i Fact.any).p v w' ∧ ((Fs.getD i Fact.any).fr = true → w.heap.size ≤ blk v)) else (Fs.getD i Fact.any).p undef w ∧ Below w.heap.size w w ∧ (Fs.getD i Fact.any).fr = false) k l' := by
      intro l'
      induction l' with
      | nil => intro k _; trivial
      | cons o r ih =>
        intro k h
        refine ⟨fun w hw hd => ?_, ih _ h.2⟩
        have h1 := h.1 w hw hd
        rw [hA vs]
        split
        · rename_i hw'; rw [if_pos hw'] at h1; exact h1
        · rename_i hw'; rw [if_neg hw'] at h1; exact ⟨h1.1, Below.refl _ _, h1.2⟩
    exact hg _ _ (hstep vs)
  · intro vs w hw hd hDs hLs
    rw [hA vs]
    exact htail vs w hw hd hDs hLs

end Go.Proofs.Ytkhfkmfofhnmdaa

namespace Go.Proofs.Ytkhfkmfofhnmdaa
open Go.RowKit Go.Shelf

/-- What an iterator is owed by a round: all blocks lie on but the loop's record l, and q. The loop is never left early. -/
def SeqOk {α : Type} (F : Fence) (n : Nat) (P : Program) (g : Nat) (lb : Array Value) (encs : α → Array Value) (q : Nat) (ok : α → Prop) (S : List α → Prop) (N : Nat) (w : World) : Prop :=
  ∀ (l : Nat) (J : List α → World → Prop) (W : World), Below w.heap.size w W → w.heap.size ≤ l → l < W.heap.size → TopFrom W.heap.size J →
    (∀ pre x W1, ok x → J pre W1 → pre.length < N → YieldAt F (n - 1) P l (encs x) W1 fun e W' => e = .returned (.bool true) ∧ J (pre ++ [x]) W' ∧ But l q W1 W') → J [] W →
    CallsIn F n P g (#[.func (.yield l) #[] #[]] ++ lb) W fun e W' => (∃ v, e = .returned v) ∧ ∃ xs, S xs ∧ J xs W'

variable {F : Fence} {n : Nat} {P : Program}

set_option maxHeartbeats 1000000 in
/-- A loop over such an iterator, which is never left early, and whose variables are no boxes. -/
theorem wpIn_range_ok {α : Type} {g : Operand} {ps : Array Tmp} {assign body : Code} {Q : Exit → Act → World → Prop} {a : Act} {w w0 : World} {q : Nat}
    (hro : F.round = none) (h1 : 1 ≤ n) {gf : Nat} {lb : Array Value} (hg : a.eval g = .func (.func gf) #[] lb) (hF : F.fn gf) (eg : ∀ args w, (callFunc gf args).run P w = .ok (.enter gf args) w)
    {encs : α → Array Value} {ok : α → Prop} {S : List α → Prop} {N : Nat} (hseq : SeqOk F (n - 1) P gf lb encs q ok S N w0) (hb0 : Below w0.heap.size w0 w) (hps : ∀ x, (encs x).size = ps.size) (hq : q < w.heap.size)
    (I : List α → World → Prop) (hI : TopFrom w.heap.size I) (h0 : I [] w)
    (Stt : α → Act → World → Prop) (hStt : ∀ x a' X Y row, Stt x a' X → X.grownBy Y row → (∀ r, row = some r → ∃ o : Obj, X.heap[r]? = some o ∧ o.isCells = false) → Stt x a' Y)
    (hassign : ∀ (l : Nat) (pre : List α) (x : α) (W : World) (K : Act → World → Prop), I pre W → (∀ a' W', W.grownBy W' none → Stt x a' W' → K a' W') → assign.wpIn (F.inRound l) (n - 1 - 1) P (Exit.then K (fun _ _ _ => False)) { tmps := (ps.zip (encs x)).foldl (fun t (p, v) => t.setIfInBounds p v) a.tmps, defers := [] } W)
    (hbody : ∀ (l : Nat) (pre : List α) (x : α) (a' : Act) (W : World), ok x → w.heap.size < l → I pre W → Stt x a' W → pre.length < N → body.wpIn (F.inRound l) (n - 1 - 1) P
      (fun e _ W' => e = .normal ∧ I (pre ++ [x]) W' ∧ W.grownBy W' (some q)) a' W)
    (hdone : ∀ (D : Nat) (xs : List α) (W : World), w.heap.size ≤ D → S xs → I xs W → W.heap[D]? = some (.deferred (some [])) → Q .normal { a with defers := { target := .collected D, args := #[] } :: a.defers } W) :
    (Code.rangeFunc g ps assign body).wpIn F n P Q a w := by
  apply wpIn_rangeFunc
  intro fn hfn
  rw [hro]
  obtain ⟨L, hL⟩ : ∃ L : LoopState → Loop, L = fun st => { state := st, pending := none, fn, tmps := a.tmps, params := ps, assign, body, defers := w.heap.size } := ⟨_, rfl⟩
  obtain ⟨W1, hW1⟩ : ∃ W1, W1 = (w.alloc (.deferred (some []))).alloc (.loop (L .ready)) := ⟨_, rfl⟩
  have hsz : W1.heap.size = w.heap.size + 2 := by rw [hW1]; simp
  have hl1 : W1.heap[w.heap.size + 1]? = some (.loop (L .ready)) := by
    have := World.alloc_heap_new (w.alloc (.deferred (some []))) (.loop (L .ready))
    rw [World.size_alloc] at this
    rw [hW1]; exact this
  have hd1 : W1.heap[w.heap.size]? = some (.deferred (some [])) := by rw [hW1]; exact (Below.heap_alloc _ _ _ (by simp)).trans (World.alloc_heap_new w _)
  have hbw : Below w.heap.size w W1 := by rw [hW1]; exact ((Below.refl _ w).alloc (Nat.le_refl _) _).alloc (by simp) _
  have hI1 : I [] W1 := hI _ _ _ none h0 (grown_of_below hbw) (by simp)
  have hb1 : Below w0.heap.size w0 W1 := hb0.trans (hbw.mono hb0.size)
  have hs0 := hb0.size
  refine ⟨w.heap.size + 1, [{ target := .collected w.heap.size, args := #[] }], W1, { target := .fn (.func gf) lb, args := #[.func (.yield (w.heap.size + 1)) #[] #[]] }, W1, gf,
    #[.func (.yield (w.heap.size + 1)) #[] #[]] ++ lb, W1, ?_, ?_, ?_, ?_, fun _ => h1, ?_⟩
  · rw [hW1, hL]; exact run_enterLoop_outer _ _ _ _ _
  · simp only [resolve, hg]
    simp [go_sem]
  · intro f' hf'; simp [Target.leads] at hf'; subst hf'; exact hF
  · simp [invoke, go_sem, eg]
  refine (hseq (w.heap.size + 1) (fun pre W => I pre W ∧ W.heap[w.heap.size + 1]? = some (.loop (L .ready)) ∧ W.heap[w.heap.size]? = some (.deferred (some []))) W1 hb1 (by omega) (by omega) ?_ ?_ ⟨hI1, hl1, hd1⟩).mono ?_
  · rintro s A B row ⟨hi, hl, hd⟩ hg' hr
    have hne : ∀ k o, A.heap[k]? = some o → k < W1.heap.size → B.heap[k]? = some o := fun k o ho hk => (hg'.block k (Array.getElem?_eq_some_iff.1 ho).1 (fun e => by have := hr k e.symm; omega)).trans ho
    exact ⟨hI s A B row hi hg' (fun r e => by have := hr r e; omega), hne _ _ hl (by omega), hne _ _ hd (by omega)⟩
  · rintro pre x W hok ⟨hi, hl, hd⟩ hlen
    have hlt : w.heap.size + 1 < W.heap.size := (Array.getElem?_eq_some_iff.1 hl).1
    have hy := run_yield (P := P) (args := encs x) hl (by rw [hL]; exact hps x)
    rw [hL] at hy
    refine ⟨fn, _, assign, body, hy, roundIn_of_wpIn hfn (hassign (w.heap.size + 1) pre x W _ hi ?_)⟩
    clear hy
    intro a' W' hg hst
    have hl' : W'.heap[w.heap.size + 1]? = some (.loop (L .ready)) := (hg.block _ hlt (by simp)).trans hl
    have hd' : W'.heap[w.heap.size]? = some (.deferred (some [])) := (hg.block _ (by omega) (by simp)).trans hd
    have hlt' : w.heap.size + 1 < W'.heap.size := Nat.lt_of_lt_of_le hlt hg.size
    have hi' : I pre W' := hI _ _ _ none hi hg (by simp)
    refine ⟨_, run_beginRound hl' (by rw [hL]), ?_⟩
    obtain ⟨W2, hW2⟩ : ∃ W2, W2 = W'.putObj (w.heap.size + 1) (.loop { L .ready with state := .busy }) := ⟨_, rfl⟩
    rw [← hW2]
    have hl2 : W2.heap[w.heap.size + 1]? = some (.loop { L .ready with state := .busy }) := by rw [hW2]; exact World.putObj_heap_same hlt'
    have hd2 : W2.heap[w.heap.size]? = some (.deferred (some [])) := by rw [hW2]; exact (World.putObj_heap_other (by omega)).trans hd'
    have hi2 : I pre W2 := by rw [hW2]; exact hI _ _ _ (some (w.heap.size + 1)) hi' (grownBy_putObj' _ _ _) (fun r e => by cases e; omega)
    have hst2 : Stt x a' W2 := by rw [hW2]; exact hStt _ _ _ _ (some (w.heap.size + 1)) hst (grownBy_putObj' _ _ _) (fun r e => by cases e; exact ⟨_, hl', rfl⟩)
    have hb2 : But (w.heap.size + 1) q W W2 := by rw [hW2]; exact (But.of_grown (grown_row hg)).trans (But.putObj _ _ _ _)
    refine wpIn_mono (hbody _ pre x a' W2 hok (by omega) hi2 hst2 hlen) ?_
    rintro e a3 W3 ⟨rfl, hi3, hg3⟩
    have hl3 := (hg3.block _ (Array.getElem?_eq_some_iff.1 hl2).1 (fun e => by have := Option.some.inj e; omega)).trans hl2
    have hd3 := (hg3.block _ (Array.getElem?_eq_some_iff.1 hd2).1 (fun e => by have := Option.some.inj e; omega)).trans hd2
    have hr3 := run_endRound (P := P) none hl3
    refine ⟨_, _, hr3, rfl, ⟨hI _ _ _ (some (w.heap.size + 1)) hi3 (grownBy_putObj' _ _ _) (fun r e => by cases e; omega), ?_, (World.putObj_heap_other (by omega)).trans hd3⟩, hb2.trans ((But.of_grown hg3).trans (But.putObj _ _ _ _))⟩
    rw [hL]
    exact World.putObj_heap_same (Array.getElem?_eq_some_iff.1 hl3).1
  · rintro e W2 ⟨⟨v, rfl⟩, xs, hS, hi, hl, hd⟩
    have := run_endLoop (P := P) hl (by rw [hL]; simp)
    rw [hL] at this
    exact ⟨none, _, this, hdone _ xs _ (Nat.le_refl _) hS (hI _ _ _ (some (w.heap.size + 1)) hi (grownBy_putObj' _ _ _) (fun r e => by cases e; omega)) ((World.putObj_heap_other (by omega)).trans hd)⟩

end Go.Proofs.Ytkhfkmfofhnmdaa

namespace Go.Proofs.Ytkhfkmfofhnmdaa
open Go.RowKit Go.Shelf
attribute [local go_sem] Oper.semAt_some

set_option maxRecDepth 100000 in
set_option maxHeartbeats 3000000 in
theorem agreeing1_ok (m : Nat) (hm : 4 ≤ m) (l Br q n : Nat) (ws : Int) (v1 v2 v3 v4 v5 : Value) (codes : List Int) (gs : List Gs) (wA w0 : World) (hA : Below wA.heap.size wA w0) (hc : IntsAt wA v4 codes) (hg : RowsAt wA v5 2 Gs.cells gs)
    (hn : 2 ≤ n) (hn2 : n ≤ 41) (hin : ∀ x ∈ gs, 0 ≤ x.a ∧ x.a < codes.length ∧ 0 ≤ x.p ∧ x.p ≤ 1000) (hR : Box w0 Br 118 #[iv n, iv ws, v1, v2, v3, v4, v5]) (hrq : Br ≠ q) (hqA : wA.heap.size ≤ q) (hq0 : q < w0.heap.size)
    (J : List Ky → World → Prop) (W : World) (hW : Below w0.heap.size w0 W) (hl0 : w0.heap.size ≤ l) (hl1 : l < W.heap.size) (hJ : TopFrom W.heap.size J)
    (hY : ∀ pre x W1, smallK x → J pre W1 → pre.length < at3 n (n - 1) 0 0 → YieldAt Fence.wide (m - 1) Try.prog l #[cogV n (undoI x.m n) x] W1 fun e W' => e = .returned (.bool true) ∧ J (pre ++ [x]) W' ∧ But l q W1 W') (h0 : J [] W) :
    CallsIn Fence.wide m Try.prog 114 #[.func (.yield l) #[] #[], .pointer (some ⟨Br, 0, none⟩)] W fun e W' => (∃ v, e = .returned v) ∧ ∃ xs, xs = agreeing n (agreeB n codes gs) (at3 n (n - 1) 0 0) ∧ J xs W' := by
  obtain ⟨_, A4, c4, rfl, _, _⟩ := hc.form
  obtain ⟨_, A5, c5, rfl, _, _⟩ := hg.form
  have hRl := hR.lt
  have hWs := hW.size
  have hAs := hA.size
  have HC := Lib.hid hc
  have HG := Lib.hid hg
  have HI := Lib.hid hin
  have HJ := Lib.hid hJ
  have HY := Lib.hid hY
  have HK : Hid (KeysI J (agreeB n codes gs) n wA W Br #[iv n, iv ws, v1, v2, v3, .slice A4 codes.length c4, .slice A5 gs.length c5] (at3 n 0 0 0) W) :=
    Lib.hid ⟨by simpa [at3, agreeing] using h0, hA.trans (hW.mono hAs), hR.below hW hRl, Nat.le_refl _⟩
  have hzn : (2 : Int) ≤ (n : Int) := by omega
  have hzn2 : (n : Int) ≤ 41 := by omega
  clear hc hg hin hJ hY hR hA hW h0
  refine callsIn_of_wp Try.func114 rfl trivial ?_ rfl
  simp only [Try.ntmps114, List.size_toArray, List.length_cons, List.length_nil, Nat.reduceAdd, Nat.reduceSub, Array.replicate_succ, Array.replicate_zero, List.push_toArray, List.append_toArray, List.nil_append, List.cons_append]
  have bR := HK.out.box
  have cR := fun i => bR.cell i
  gi_wp2_with fail
  clear cR bR
  gi_loopw [12] (fun i wr => ∃ x : Nat, x ≤ n - 1 ∧ i = .int .i64 x ∧ Hid (KeysI J (agreeB n codes gs) n wA W Br #[iv n, iv ws, v1, v2, v3, .slice A4 codes.length c4, .slice A5 gs.length c5] (at3 n x 0 0) wr)) (fun i _ => n - 1 - (intOf i).toNat)
  case atStart => exact ⟨0, by omega, rfl, HK⟩
  case round =>
    clear HK
    obtain ⟨x, hx, rfl, HK⟩ := hrel
    by_cases hlt : x < n - 1
    · have hlt' : (x : Int) < (n : Int) - 1 := by omega
      have bR := HK.out.box
      have cR := fun i => bR.cell i
      gi_wp2_with fail
      refine ⟨trivial, fun _ => by omega, ?_⟩
      refine (callsIn_wide.2 (newCog_any n ⟨(x : Int) + 1, 0, 0⟩ wr (by omega) (by simp only; omega))).mono ?_
      rintro e w1 ⟨rfl, hb1⟩
      obtain ⟨u, hu⟩ : ∃ u, undoI ((x : Int) + 1) n = u := ⟨_, rfl⟩
      have HU := Lib.hid hu
      simp only [hu]
      unfold cogV
      have HK1 := Lib.hid (HK.out.kept HJ.out hb1)
      have hs4 := HK1.out.size
      have bR1 := HK1.out.box
      have bR2 := bR1.alloc (.cells #[iv ((x : Int) + 1), iv 0, iv 0, iv n, iv u] 139)
      have cR1 := fun i => bR1.cell i
      have cR2 := fun i => bR2.cell i
      have lR1 := bR1.lt
      clear cR bR hu
      gi_wp2_with fail
      have HK2 := Lib.hid (HK1.out.kept HJ.out ((Below.refl _ w1).alloc (Nat.le_refl _) (.cells #[iv ((x : Int) + 1), iv 0, iv 0, iv n, iv u] 139)))
      have B4 : Box _ w1.heap.size 139 #[iv ((x : Int) + 1), iv 0, iv 0, iv n, iv u] := Box.new (w := w1) rfl
      clear cR1 cR2 bR1 bR2 HK HK1
      obtain ⟨n4, hn4⟩ : ∃ n4, w1.heap.size = n4 := ⟨_, rfl⟩
      rw [hn4] at hs4 lR1 B4 ⊢
      clear hn4
      have hRn : Br ≠ n4 := by omega
      have hnR : n4 ≠ Br := by omega
      have hln : n4 ≠ l := by omega
      have hqn : n4 ≠ q := by omega
      gi_loopw [27] (fun i wr => ∃ y : Nat, y ≤ n ∧ i = .int .i64 y ∧ Hid (KeysI J (agreeB n codes gs) n wA W Br #[iv n, iv ws, v1, v2, v3, .slice A4 codes.length c4, .slice A5 gs.length c5] (at3 n x y 0) wr) ∧ ∃ A S, Box wr n4 139 #[iv ((x : Int) + 1), iv A, iv S, iv n, iv u]) (fun i _ => n - (intOf i).toNat)
      case atStart => exact ⟨0, by omega, rfl, HK2, _, _, B4⟩
      case round =>
        clear HK2 B4
        obtain ⟨y, hy, rfl, HK, A, S, B4⟩ := hrel
        have bR := HK.out.box
        have cR := fun i => bR.cell i
        by_cases hlty : y < n
        · have hlty' : (y : Int) < (n : Int) := by omega
          gi_wp2_with fail
          clear cR bR
          gi_loopw [34] (fun i wr => ∃ z : Nat, z ≤ n ∧ i = .int .i64 z ∧ Hid (KeysI J (agreeB n codes gs) n wA W Br #[iv n, iv ws, v1, v2, v3, .slice A4 codes.length c4, .slice A5 gs.length c5] (at3 n x y z) wr) ∧ ∃ A S, Box wr n4 139 #[iv ((x : Int) + 1), iv A, iv S, iv n, iv u]) (fun i _ => n - (intOf i).toNat)
          case atStart => exact ⟨0, by omega, rfl, HK, _, _, B4⟩
          case round =>
            clear HK B4
            obtain ⟨z, hz, rfl, HK, A, S, B4⟩ := hrel
            by_cases hltz : z < n
            · have hltz' : (z : Int) < (n : Int) := by omega
              have HKs := Lib.hid ((HK.out.set (b := n4) (k := 1) (iv (y : Int)) HJ.out hs4 (by omega) (by omega)).set (b := n4) (k := 2) (iv (z : Int)) HJ.out hs4 (by omega) (by omega))
              have B4s : Box ((wr.setCell ⟨n4, 1, none⟩ (iv (y : Int))).setCell ⟨n4, 2, none⟩ (iv (z : Int))) n4 139 #[iv ((x : Int) + 1), iv (y : Int), iv (z : Int), iv n, iv u] := by simpa using ((B4.put 1 (iv (y : Int))).put 2 (iv (z : Int)))
              have bR := HKs.out.box
              have cR := fun i => bR.cell i
              have c4s := fun i => B4s.cell i
              have c4 := fun i => B4.cell i
              have f4 := fun i => B4.free i
              have l4 := B4.lt
              gi_wp2_with fail
              refine ⟨trivial, fun _ => by omega, ?_⟩
              refine (callsIn_wide.2 (agrees_any n u ws ⟨(x : Int) + 1, y, z⟩ v1 v2 v3 _ _ codes gs _ (HC.out.kept HKs.out.low) (HG.out.kept HKs.out.low) (by omega) ⟨by simp only; omega, by simp only; omega, by simp only; omega⟩ HI.out)).mono ?_
              rintro e w2 ⟨rfl, hb2⟩
              have HKey := Lib.hid (keyNo_at (x := x) hlty hltz)
              have HK2 := Lib.hid (HKs.out.kept HJ.out hb2)
              have B42 := B4s.kept hb2
              have c42 := fun i => B42.cell i
              clear cR bR c4s c4 f4 l4 B4s B4 HKs HK hb2
              cases hag : agreeB n codes gs ⟨(x : Int) + 1, y, z⟩ with
              | false =>
                have HAg := Lib.hid hag
                clear hag
                gi_wp2_with fail
                refine ⟨fun _ h => (by cases h), ?_⟩
                gi_wp2_with fail
                go_roundw
                case rel => exact ⟨z + 1, by omega, by go_num, by rw [← at3_z]; exact HK2.out.next (by rw [HKey.out]; exact HAg.out), _, _, B42⟩
                case measure => simp [intOf]; omega
              | true =>
                have HAg := Lib.hid hag
                obtain ⟨fn, tmps, assign, body, hy, hround⟩ := HY.out _ ⟨(x : Int) + 1, y, z⟩ w2 ⟨by simp only; omega, by simp only; omega, by simp only; omega⟩ HK2.out.j (Nat.lt_of_le_of_lt (agreeing_len _ _ _) (at3_lt hlt hlty hltz))
                simp only [cogV, HU.out] at hy
                have Hr := Lib.hid hround
                clear hround hag
                gi_wp2_with fail
                refine ⟨fun _ => by omega, ?_⟩
                refine Hr.out.mono ?_
                rintro e W3 ⟨rfl, hJ3, hBut⟩
                clear c42
                have B43 := hBut.box B42 hln hqn
                have HJ3 := Lib.hid hJ3
                have HB3 := Lib.hid hBut
                clear hJ3 hBut B42
                gi_wp2_with fail
                go_roundw
                case rel => exact ⟨z + 1, by omega, by go_num, by rw [← at3_z]; exact HK2.out.more (by rw [HKey.out]; exact HAg.out) (by rw [HKey.out]; exact HJ3.out) HB3.out (by omega) hqA (by omega) hrq, _, _, B43⟩
                case measure => simp [intOf]; omega
            · have hze : z = n := by omega
              subst hze
              gi_wp2_with fail
              go_roundw
              case rel => exact ⟨y + 1, by omega, by go_num, by rw [← at3_y]; exact HK, _, _, B4⟩
              case measure => simp [intOf]; omega
        · have hye : y = n := by omega
          subst hye
          gi_wp2_with fail
          go_roundw
          case rel => exact ⟨x + 1, by omega, by go_num, by rw [← at3_x]; exact HK⟩
          case measure => simp [intOf]; omega
    · have hxe : x = n - 1 := by omega
      subst hxe
      gi_wp2_with fail
      go_end0
      exact ⟨⟨_, rfl⟩, _, rfl, HK.out.j⟩

/-- **agreeing's value**: the keys that agree, in order. -/
theorem agreeing_seq (m : Nat) (hm : 4 ≤ m) (Br q n : Nat) (ws : Int) (v1 v2 v3 v4 v5 : Value) (codes : List Int) (gs : List Gs) (wA w0 : World) (hA : Below wA.heap.size wA w0) (hc : IntsAt wA v4 codes) (hg : RowsAt wA v5 2 Gs.cells gs)
    (hn : 2 ≤ n) (hn2 : n ≤ 41) (hin : ∀ x ∈ gs, 0 ≤ x.a ∧ x.a < codes.length ∧ 0 ≤ x.p ∧ x.p ≤ 1000) (hR : Box w0 Br 118 #[iv n, iv ws, v1, v2, v3, v4, v5]) (hrq : Br ≠ q) (hqA : wA.heap.size ≤ q) (hq0 : q < w0.heap.size) :
    SeqOk Fence.wide m Try.prog 114 #[.pointer (some ⟨Br, 0, none⟩)] (fun x : Ky => #[cogV n (undoI x.m n) x]) q smallK (fun xs => xs = agreeing n (agreeB n codes gs) (at3 n (n - 1) 0 0)) (at3 n (n - 1) 0 0) w0 := fun l J W hW hl0 hl1 hJ hY h0 =>
  agreeing1_ok m hm l Br q n ws v1 v2 v3 v4 v5 codes gs wA w0 hA hc hg hn hn2 hin hR hrq hqA hq0 J W hW hl0 hl1 hJ hY h0

end Go.Proofs.Ytkhfkmfofhnmdaa

namespace Go.Proofs.Ytkhfkmfofhnmdaa
open Go.RowKit Go.Shelf
attribute [local go_sem] Oper.semAt_some

def possB (n : Int) (c i : Int) (ks : List Ky) (j : Nat) : Bool := ks.any fun k => plainI n k c i == (j : Int)
/-- The plain numbers below m that a key makes of the code. -/
def possL (n : Int) (c i : Int) (ks : List Ky) (m : Nat) : List Int := ((List.range m).filter (possB n c i ks)).map fun j => ((j : Nat) : Int)
/-- Which plain numbers have been found. -/
def Marks (W : World) (q n : Nat) (c i : Int) (ks : List Ky) : Prop := ∃ cs : Array Value, Box W q 124 cs ∧ cs.size = 41 ∧ ∀ j : Nat, j < n → cs[j]? = some (.bool (possB n c i ks j))
theorem Marks.more {W : World} {q n : Nat} {c i : Int} {ks : List Ky} {x : Ky} {p : Nat} (h : Marks W q n c i ks) (hp : plainI n x c i = p) (hpn : p < n) (hn : n ≤ 41) : Marks (W.setCell ⟨q, p, none⟩ (.bool true)) q n c i (ks ++ [x]) := by
  obtain ⟨cs, hb, hs, h⟩ := h
  refine ⟨_, hb.put p (.bool true), by simpa using hs, fun j hj => ?_⟩
  rw [Array.getElem?_setIfInBounds]
  by_cases e : p = j
  · subst e
    rw [if_pos rfl, if_pos (by omega)]
    simp [possB, hp]
  · rw [if_neg e, h j hj]
    have e2 : (plainI n x c i == (j : Int)) = false := by rw [hp, beq_eq_false_iff_ne]; omega
    simp [possB, List.any_append, e2]
theorem Marks.kept {W W' : World} {q n : Nat} {c i : Int} {ks : List Ky} (h : Marks W q n c i ks) (hb : Below W.heap.size W W') : Marks W' q n c i ks := by
  obtain ⟨cs, h1, h2⟩ := h
  exact ⟨cs, h1.kept hb, h2⟩
theorem Marks.grown {W W' : World} {q n : Nat} {c i : Int} {ks : List Ky} {row : Option Nat} (h : Marks W q n c i ks) (hb : W.grownBy W' row) (hq : some q ≠ row) : Marks W' q n c i ks := by
  obtain ⟨cs, h1, h2⟩ := h
  exact ⟨cs, h1.grown hb hq, h2⟩
theorem possL_succ {n c i : Int} {ks : List Ky} {m : Nat} : possL n c i ks (m + 1) = possL n c i ks m ++ if possB n c i ks m then [(m : Int)] else [] := by
  unfold possL
  rw [List.range_succ, List.filter_append, List.map_append]
  by_cases h : possB n c i ks m = true <;> simp [h]
theorem possL_len (n c i : Int) (ks : List Ky) (m : Nat) : (possL n c i ks m).length ≤ m := by
  unfold possL
  have := List.length_filter_le (possB n c i ks) (List.range m)
  simpa using this

set_option maxRecDepth 100000 in
set_option maxHeartbeats 3000000 in
theorem possible_in (m : Nat) (hm : 6 ≤ m) (n i : Nat) (c ws : Int) (v1 v2 v3 v4 v5 : Value) (codes : List Int) (gs : List Gs) (w : World) (hc : IntsAt w v4 codes) (hg : RowsAt w v5 2 Gs.cells gs)
    (hn : 2 ≤ n) (hn2 : n ≤ 41) (hin : ∀ x ∈ gs, 0 ≤ x.a ∧ x.a < codes.length ∧ 0 ≤ x.p ∧ x.p ≤ 1000) (hi : codes[i]? = some c) (hi2 : i ≤ 1000) (hc2 : 0 ≤ c ∧ c ≤ 1000) :
    CallsIn Fence.wide m Try.prog 79 #[.agg #[iv n, iv ws, v1, v2, v3, v4, v5], iv i] w fun e w' => ∃ v, e = .returned v ∧ w'.ownsRow w.heap.size 3 1 v (possL n c i (agreeing n (agreeB n codes gs) (at3 n (n - 1) 0 0)) n).length ((possL n c i (agreeing n (agreeB n codes gs) (at3 n (n - 1) 0 0)) n).map iv) ∧ Below w.heap.size w w' := by
  obtain ⟨_, A4, c4, rfl, _, _⟩ := hc.form
  obtain ⟨_, A5, c5, rfl, _, _⟩ := hg.form
  have HC := Lib.hid hc
  have HG := Lib.hid hg
  have HI := Lib.hid hin
  have hN := at3_small hn2
  have h1 : 1 ≤ m := by omega
  clear hc hg hin
  refine callsIn_of_wp_marks Try.func79 rfl trivial ?_ rfl
  simp only [Try.ntmps79, List.size_toArray, List.length_cons, List.length_nil, Nat.reduceAdd, Nat.reduceSub, Array.replicate_succ, Array.replicate_zero, List.push_toArray, List.append_toArray, List.nil_append, List.cons_append]
  gi_wp2_with fail
  refine ⟨trivial, ?_⟩
  refine (callsIn_wide.2 (agreeing_any _ _ _ _ _ _ _ _)).mono ?_
  rintro e w1 ⟨Br, rfl, hR, hb, hBr⟩
  obtain ⟨RD, hRD⟩ : ∃ RD, #[iv n, iv ws, v1, v2, v3, .slice A4 codes.length c4, .slice A5 gs.length c5] = RD := ⟨_, rfl⟩
  have hB0 : Below w.heap.size w (((w.alloc (.cells #[iv n, iv ws, v1, v2, v3, .slice A4 codes.length c4, .slice A5 gs.length c5] 118)).alloc (.cells #[iv i] 3)).alloc (.cells (Array.replicate 41 (.bool false)) 124)) := up_alloc (up_alloc (up_alloc up0 _) _) _
  have hB1 : Below w.heap.size w w1 := up_later hB0 hb
  have bR : Box w1 w.heap.size 118 #[iv n, iv ws, v1, v2, v3, .slice A4 codes.length c4, .slice A5 gs.length c5] := (((Box.new (w := w) rfl).alloc _).alloc _).kept hb
  have bI : Box w1 (w.heap.size + 1) 3 #[iv i] := ((Box.new (w := w.alloc (.cells #[iv n, iv ws, v1, v2, v3, .slice A4 codes.length c4, .slice A5 gs.length c5] 118)) (by simp)).alloc _).kept hb
  have bQ : Box w1 (w.heap.size + 1 + 1) 124 (Array.replicate 41 (.bool false)) := (Box.new (w := (w.alloc (.cells #[iv n, iv ws, v1, v2, v3, .slice A4 codes.length c4, .slice A5 gs.length c5] 118)).alloc (.cells #[iv i] 3)) (by simp)).kept hb
  have hq := bQ.lt
  have hrq : Br ≠ w.heap.size + 1 + 1 := by simp at hBr; omega
  have M0 : Marks w1 (w.heap.size + 1 + 1) n c i [] := ⟨_, bQ, by simp, fun j hj => by rw [Array.getElem?_replicate, if_pos (by omega)]; simp [possB]⟩
  have hseq := agreeing_seq (m - 1) (by omega) Br (w.heap.size + 1 + 1) n ws v1 v2 v3 _ _ codes gs w w1 hB1 HC.out HG.out hn hn2 HI.out hR hrq (by omega) hq
  have HS := Lib.hid hseq
  clear hseq hR hrq hBr hb hB0 bQ hRD
  gi_wp2_with fail
  refine wpIn_range_ok rfl h1 (gf := 114) (lb := #[.pointer (some ⟨Br, 0, none⟩)]) rfl trivial callFunc_agreeing HS.out (Below.refl _ _) (fun _ => rfl) hq
    (fun pre W' => Marks W' (w.heap.size + 1 + 1) n c i pre ∧ Box W' w.heap.size 118 #[iv n, iv ws, v1, v2, v3, .slice A4 codes.length c4, .slice A5 gs.length c5] ∧ Box W' (w.heap.size + 1) 3 #[iv i] ∧ Below w.heap.size w W' ∧ w1.heap.size ≤ W'.heap.size) ?hI ⟨M0, bR, bI, hB1, Nat.le_refl _⟩
    (fun x a' W' => ∃ g, w1.heap.size ≤ g ∧ Box W' g 139 #[iv x.m, iv x.a, iv x.s, iv n, iv (undoI x.m n)] ∧ a' = { tmps := #[.agg #[iv n, iv ws, v1, v2, v3, .slice A4 codes.length c4, .slice A5 gs.length c5], iv i, .pointer (some ⟨w.heap.size, 0, none⟩), .pointer (some ⟨w.heap.size + 1, 0, none⟩), .slice none 0 0, .pointer (some ⟨w.heap.size + 1 + 1, 0, none⟩), .pointer (some ⟨g, 0, none⟩), undef, undef, .agg #[iv n, iv ws, v1, v2, v3, .slice A4 codes.length c4, .slice A5 gs.length c5], .func (.func 114) #[] #[.pointer (some ⟨Br, 0, none⟩)], cogV n (undoI x.m n) x, undef, undef, undef, undef, undef, undef, undef, undef, undef, undef, undef, undef, undef, undef, undef, undef, undef, undef, undef, undef, undef, undef, undef, undef, undef], defers := [] })
    ?hStt ?hassign ?hbody ?hdone
  case hI =>
    rintro s X Y row ⟨h1, h2, h3, h4, h5⟩ hg hr
    exact ⟨h1.grown hg (fun e => by have := hr _ e.symm; omega), h2.grown hg (fun e => by have := hr _ e.symm; omega), h3.grown hg (fun e => by have := hr _ e.symm; omega), h4.grown hg h4.size (fun k hk => by have := hr k hk; omega), Nat.le_trans h5 hg.size⟩
  case hStt =>
    rintro x a' X Y row ⟨g, h1, h2, h3⟩ hg hr
    refine ⟨g, h1, h2.grown hg (fun e => ?_), h3⟩
    obtain ⟨o, ho, hc⟩ := hr g e.symm
    rw [show X.heap[g]? = _ from h2] at ho
    cases ho
    cases hc
  case hassign =>
    rintro l pre x W K ⟨_, _, _, _, h5⟩ hK
    unfold cogV
    gi_wp2
    exact hK _ _ (grown_of_below ((Below.refl _ W).alloc (Nat.le_refl _) _)) ⟨_, h5, Box.new rfl, rfl⟩
  case hbody =>
    rintro l pre x a' W hok hl ⟨hM, N2, N3, b4, b5⟩ ⟨g, hg1, N6, rfl⟩ hlen
    unfold cogV
    obtain ⟨⟨k1, k2⟩, ⟨k3, k4⟩, k5, k6⟩ := hok
    have hu : 0 ≤ undoI x.m n ∧ undoI x.m n ≤ 1000 := by
      have := powI_in (m := x.m) (n := (n : Int)) (by omega) (by omega) ((n : Int) - 2).toNat
      unfold undoI
      omega
    obtain ⟨u, hu2⟩ : ∃ u, undoI x.m n = u := ⟨_, rfl⟩
    have HU := Lib.hid hu2
    rw [hu2] at N6 hu
    have HCW := Lib.hid (HC.out.kept b4)
    have HY := Lib.hid hi
    have hlen2 := HC.out.form.1
    obtain ⟨bl, ol, rfl, _, _⟩ := HC.out.at rfl hi
    have hil : i < codes.length := (List.getElem?_eq_some_iff.1 hi).1
    have i0 : (0 : Int) ≤ (i : Int) := by omega
    have i1 : (i : Int) < (codes.length : Int) := by omega
    have hp := plainI_in (n := (n : Int)) (k := x) (p := c) (i := i) (by omega)
    obtain ⟨p, hpp⟩ : ∃ p : Nat, plainI n x c i = p := ⟨(plainI n x c i).toNat, by omega⟩
    have HP := Lib.hid hpp
    rw [hpp] at hp
    have p0 : (0 : Int) ≤ (p : Int) := by omega
    have p1 : (p : Int) < 41 := by omega
    have hpn : p < n := by omega
    have HM := Lib.hid hM
    simp only [hu2]
    clear hM hpp hu2 hi hp
    gi_wp2_with fail
    apply wpIn_region_by 9 [(Fact.eq _), (Fact.eq _), (Fact.eq _), (Fact.eq _), (Fact.eq _), (Fact.eq _), (Fact.eq _), (Fact.eq (iv p)), (Fact.eq _)]
    case hm => kernel_rfl
    case hB => kernel_rfl
    case hpl => kernel_rfl
    case hA => (intro vs; simp only [List.take_succ_cons, List.take_zero, putAll, if_true, Act.put, List.setIfInBounds_toArray, List.set_cons_zero, List.set_cons_succ]; exact rfl)
    case hstep =>
      intro vs
      refine And.intro (fun w hw hd => ?_) ?_
      · refine ite_yes rfl ?_
        have c_N2 := fun i => (N2.kept hw).cell i
        have c_N3 := fun i => (N3.kept hw).cell i
        have c_N6 := fun i => (N6.kept hw).cell i
        simp only [Gives]
        go_simp
        exact ⟨Below.refl _ _, rfl, fun h => by cases h⟩
      refine And.intro (fun w hw hd => ?_) ?_
      · refine ite_yes rfl ?_
        simp only [Gives]
        go_simp
        exact ⟨Below.refl _ _, rfl, fun h => by cases h⟩
      refine And.intro (fun w hw hd => ?_) ?_
      · have d1 := hd 1 (by decide) rfl
        change vs 1 = _ at d1
        refine ite_yes rfl ?_
        have c_N2 := fun i => (N2.kept hw).cell i
        have c_N3 := fun i => (N3.kept hw).cell i
        have c_N6 := fun i => (N6.kept hw).cell i
        simp only [Gives]
        go_simp
        exact ⟨Below.refl _ _, rfl, fun h => by cases h⟩
      refine And.intro (fun w hw hd => ?_) ?_
      · refine ite_yes rfl ?_
        have c_N2 := fun i => (N2.kept hw).cell i
        have c_N3 := fun i => (N3.kept hw).cell i
        have c_N6 := fun i => (N6.kept hw).cell i
        have q0 : w.cell? ⟨bl, ol + i, none⟩ = some (.int .i64 c) := by simpa using (HCW.out.kept hw).cellAt HY.out (j := 0) rfl
        simp only [Gives]
        go_simp
        exact ⟨Below.refl _ _, rfl, fun h => by cases h⟩
      refine And.intro (fun w hw hd => ?_) ?_
      · have d2 := hd 2 (by decide) rfl
        change vs 2 = _ at d2
        have d3 := hd 3 (by decide) rfl
        change vs 3 = _ at d3
        refine ite_yes rfl ?_
        simp only [Gives]
        go_simp
        exact ⟨Below.refl _ _, rfl, fun h => by cases h⟩
      refine And.intro (fun w hw hd => ?_) ?_
      · have d4 := hd 4 (by decide) rfl
        change vs 4 = _ at d4
        refine ite_yes rfl ?_
        have c_N2 := fun i => (N2.kept hw).cell i
        have c_N3 := fun i => (N3.kept hw).cell i
        have c_N6 := fun i => (N6.kept hw).cell i
        have q0 : w.cell? ⟨bl, ol + i, none⟩ = some (.int .i64 c) := by simpa using (HCW.out.kept hw).cellAt HY.out (j := 0) rfl
        simp only [Gives]
        go_simp
        exact ⟨Below.refl _ _, rfl, fun h => by cases h⟩
      refine And.intro (fun w hw hd => ?_) ?_
      · refine ite_yes rfl ?_
        have c_N2 := fun i => (N2.kept hw).cell i
        have c_N3 := fun i => (N3.kept hw).cell i
        have c_N6 := fun i => (N6.kept hw).cell i
        have q0 : w.cell? ⟨bl, ol + i, none⟩ = some (.int .i64 c) := by simpa using (HCW.out.kept hw).cellAt HY.out (j := 0) rfl
        simp only [Gives]
        go_simp
        exact ⟨Below.refl _ _, rfl, fun h => by cases h⟩
      refine And.intro (fun w hw hd => ?_) ?_
      · have d0 := hd 0 (by decide) rfl
        change vs 0 = _ at d0
        have d5 := hd 5 (by decide) rfl
        change vs 5 = _ at d5
        have d6 := hd 6 (by decide) rfl
        change vs 6 = _ at d6
        refine ite_yes rfl ?_
        simp only [Gives]
        go_simp
        refine (plain_any n u x c i w (by omega) hu ⟨k3, k4⟩ ⟨k5, k6⟩ hc2 (by omega) HU.out.symm).mono ?_
        rintro e w7 ⟨rfl, hb⟩
        rw [HP.out]
        exact ⟨_, rfl, hb, rfl, fun h => by cases h⟩
      refine And.intro (fun w hw hd => ?_) ?_
      · have d7 := hd 7 (by decide) rfl
        change vs 7 = _ at d7
        refine ite_yes rfl ?_
        simp only [Gives]
        go_simp
        exact ⟨Below.refl _ _, rfl, fun h => by cases h⟩
      exact trivial
    intro vs wt hw hd hne hlo
    have d0 := hd 0 (by decide)
    change vs 0 = _ at d0
    have d1 := hd 1 (by decide)
    change vs 1 = _ at d1
    have d2 := hd 2 (by decide)
    change vs 2 = _ at d2
    have d3 := hd 3 (by decide)
    change vs 3 = _ at d3
    have d4 := hd 4 (by decide)
    change vs 4 = _ at d4
    have d5 := hd 5 (by decide)
    change vs 5 = _ at d5
    have d6 := hd 6 (by decide)
    change vs 6 = _ at d6
    have d7 := hd 7 (by decide)
    change vs 7 = _ at d7
    have d8 := hd 8 (by decide)
    change vs 8 = _ at d8
    simp only [d0, d1, d2, d3, d4, d5, d6, d8, List.drop_succ_cons, List.drop_zero]
    have N2 := N2.kept hw
    have N3 := N3.kept hw
    have N6 := N6.kept hw
    have c_N2 := fun i => N2.cell i
    have f_N2 := fun i => N2.free i
    have c_N3 := fun i => N3.cell i
    have f_N3 := fun i => N3.free i
    have c_N6 := fun i => N6.cell i
    have f_N6 := fun i => N6.free i
    clear hd hne hlo d0 d1 d2 d3 d4 d5 d6 d8
    obtain ⟨cs, Q1, Q2, Q3⟩ := HM.out.kept hw
    have cQ : wt.cell? ⟨w.heap.size + 1 + 1, p, none⟩ = some (.bool (possB n c i pre p)) := by rw [Q1.cell]; exact Q3 p hpn
    have fQ := fun i => Q1.free i
    have lQ := Q1.lt
    go_wp2_with fail
    exact ⟨⟨(HM.out.kept hw).more HP.out hpn hn2, N2.far (p := ⟨w.heap.size + 1 + 1, p, none⟩) (by simp; omega) _, N3.far (p := ⟨w.heap.size + 1 + 1, p, none⟩) (by simp) _, (b4.trans (hw.mono b4.size)).setCell (p := ⟨w.heap.size + 1 + 1, p, none⟩) (by simp; omega) _, by have := hw.size; omega⟩, grown_tr (grown_row (grown_of_below hw)) (grownBy_set _ _ _ _)⟩
  case hdone =>
    rintro D xs W hD hxs ⟨hM, N2, N3, b4, b5⟩ hd
    have HX := Lib.hid hxs
    clear hxs
    have hi2n : (n : Int) ≤ 41 := by omega
    have c2 := fun i => N2.cell i
    gi_wp2_with fail
    obtain ⟨i0, hi0, hz0, hz1, hz2⟩ := info_parts int_info
    have HM := Lib.hid hM
    clear c2 hM hi hc2
    gi_loopw [7, 25] (fun v j wr => ∃ k : Nat, k ≤ n ∧ j = .int .i64 k ∧ wr.ownsRow W.heap.size 3 1 v (possL n c i xs k).length ((possL n c i xs k).map iv) ∧ Hid (Below W.heap.size W wr)) (fun _ j _ => n - (intOf j).toNat)
    case atStart => exact ⟨0, by omega, rfl, by simpa [possL] using World.ownsRow_nil _ _ _ _, Lib.hid (Below.refl _ _)⟩
    case round =>
      obtain ⟨k, hk, rfl, HO0, HB⟩ := hrel
      have HO := Lib.hid HO0
      clear HO0
      by_cases hlt : k < n
      · have hlt' : (k : Int) < (n : Int) := by omega
        have k0 : (0 : Int) ≤ (k : Int) := by omega
        have k1 : (k : Int) < 41 := by omega
        have hll := possL_len n c i xs k
        obtain ⟨cs, Q1, Q2, Q3⟩ := HM.out.kept HB.out
        have cQ : wr.cell? ⟨w.heap.size + 1 + 1, k, none⟩ = some (.bool (possB n c i xs k)) := by rw [Q1.cell]; exact Q3 k hlt
        have lQ := Q1.lt
        obtain ⟨A8, p8, rfl⟩ := own_form' HO.out
        have HL := Lib.hid (possL_succ (n := n) (c := c) (i := i) (ks := xs) (m := k))
        have hsz := HB.out.size
        cases hb : possB n c i xs k with
        | true =>
          rw [hb] at cQ
          have HQ := Lib.hid hb
          clear hb Q1 Q2 Q3
          gi_wp2_with (gi_at_builtin; refine wpListIn_append_own _ rfl (.tmp 31) (.tmp 33) 23 rfl W.heap.size 3 i0 _ 1 8 Try.underlying23 hi0 hz0 hz1 hz2 rfl (by decide) _ _ _ rfl (HO.out.alloc _) ⟨wr.heap.size, 0, none⟩ 1 1 [iv k] rfl rfl (cell_one_new _ _ _) (by simp [Value.oneCell']) (by unfold maxLen; omega) (by omega) (by simp; omega) ?_; intro v' w3 hown' hgrow hnil; clear hnil)
          go_roundw
          case rel =>
            have hg2 : Below W.heap.size W w3 := Below.grown (up_alloc HB.out (.cells #[iv k] 3)) hgrow (by simp; omega) fun g e => ((HO.out.alloc (.cells #[iv k] 3)).lt g e).1
            refine ⟨k + 1, by omega, by go_num, ?_, Lib.hid hg2⟩
            rw [HL.out, HQ.out, if_pos rfl, List.length_append, List.map_append]
            exact hown'
          case measure => simp [intOf]; omega
        | false =>
          rw [hb] at cQ
          have HQ := Lib.hid hb
          clear hb Q1 Q2 Q3
          gi_wp2_with fail
          go_roundw
          case rel => exact ⟨k + 1, by omega, by go_num, by rw [HL.out, HQ.out]; simpa using HO.out, HB⟩
          case measure => simp [intOf]; omega
      · have hke : k = n := by omega
        subst hke
        gi_wp2_with fail
        have hdl : D < W.heap.size := (Array.getElem?_eq_some_iff.1 hd).1
        have hd2 : wr.heap[D]? = some (.deferred (some [])) := (HB.out.block D hdl).trans hd
        have hs1 := hB1.size
        refine ⟨by simp, .inl ⟨_, _, rfl, run_takeDeferred hd2, ?_⟩⟩
        refine ⟨_, results_tmp rfl _ _ _, _, rfl, ?_, (b4.trans (HB.out.mono b4.size)).trans (belowK_b (w := w) (Nat.le_refl _) wr D _ _ (by omega) hd2 rfl rfl)⟩
        rw [← HX.out]
        exact ownsRow_putObj (own_mono HO.out (by omega)) _ hd2 rfl

end Go.Proofs.Ytkhfkmfofhnmdaa

namespace Go.Proofs.Ytkhfkmfofhnmdaa
open Go.RowKit Go.Shelf
attribute [local go_sem] Oper.semAt_some

/-- All keys that agree. -/
def keysI (b : Bk) (codes : List Int) (gs : List Gs) : List Ky := agreeing b.n.toNat (agreeB b.n codes gs) (at3 b.n.toNat (b.n.toNat - 1) 0 0)
def possI (b : Bk) (codes : List Int) (gs : List Gs) (i : Nat) : List Int := possL b.n (codes.getD i 0) i (keysI b codes gs) b.n.toNat
def possE (b : Bk) (codes : List Int) (gs : List Gs) (a : Int) : List Int × Int :=
  if askE b codes gs ≠ 0 then ([], askE b codes gs) else if belowB a codes.length = false then ([], 2) else if possI b codes gs a.toNat = [] then ([], 11) else (possI b codes gs a.toNat, 0)

theorem possible_any (n i : Nat) (c ws : Int) (v1 v2 v3 v4 v5 : Value) (codes : List Int) (gs : List Gs) (w : World) (hc : IntsAt w v4 codes) (hg : RowsAt w v5 2 Gs.cells gs)
    (hn : 2 ≤ n) (hn2 : n ≤ 41) (hin : ∀ x ∈ gs, 0 ≤ x.a ∧ x.a < codes.length ∧ 0 ≤ x.p ∧ x.p ≤ 1000) (hi : codes[i]? = some c) (hi2 : i ≤ 1000) (hc2 : 0 ≤ c ∧ c ≤ 1000) :
    Calls Try.prog 79 #[.agg #[iv n, iv ws, v1, v2, v3, v4, v5], iv i] w fun e w' => ∃ v, e = .returned v ∧ w'.ownsRow w.heap.size 3 1 v (possL n c i (agreeing n (agreeB n codes gs) (at3 n (n - 1) 0 0)) n).length ((possL n c i (agreeing n (agreeB n codes gs) (at3 n (n - 1) 0 0)) n).map iv) ∧ Below w.heap.size w w' :=
  callsIn_wide.1 (possible_in 9 (by omega) n i c ws v1 v2 v3 v4 v5 codes gs w hc hg hn hn2 hin hi hi2 hc2)

theorem possible_book (b : Bk) (i : Nat) (v1 v2 v3 v4 v5 : Value) (codes : List Int) (gs : List Gs) (w : World) (hok : BookOK b) (hc : IntsAt w v4 codes) (hg : RowsAt w v5 2 Gs.cells gs) (hin : ∀ x ∈ gs, 0 ≤ x.a ∧ x.a < codes.length ∧ 0 ≤ x.p ∧ x.p ≤ 1000)
    (hi : i < codes.length) (hl : codes.length ≤ 10) (hcs : ∀ x ∈ codes, 0 ≤ x ∧ x < b.n) :
    Calls Try.prog 79 #[.agg #[iv b.n, iv b.w, v1, v2, v3, v4, v5], iv i] w fun e w' => ∃ v, e = .returned v ∧ w'.ownsRow w.heap.size 3 1 v (possI b codes gs i).length ((possI b codes gs i).map iv) ∧ Below w.heap.size w w' := by
  have hn1 := hok.n1
  have hn2 := hok.n2
  obtain ⟨n, hn⟩ : ∃ n : Nat, b.n = n := ⟨b.n.toNat, by omega⟩
  obtain ⟨c, hcc⟩ : ∃ c, codes[i]? = some c := ⟨_, List.getElem?_eq_getElem hi⟩
  have hc0 := hcs c (List.mem_of_getElem? hcc)
  have h := possible_any n i c b.w v1 v2 v3 v4 v5 codes gs w hc hg (by omega) (by omega) hin hcc (by omega) (by omega)
  have e : possL n c i (agreeing n (agreeB n codes gs) (at3 n (n - 1) 0 0)) n = possI b codes gs i := by
    unfold possI keysI
    rw [hn, Int.toNat_natCast, List.getD_eq_getElem?_getD, hcc]
    rfl
  rw [e, ← hn] at h
  exact h

set_option maxRecDepth 100000 in
set_option maxHeartbeats 1500000 in
theorem Possible_any (v1 v2 v4 v5 : Value) (b : Bk) (codes : List Int) (gs : List Gs) (a : Int) (w : World) (hL : BookAt w v1 v2 b) (hc : IntsAt w v4 codes) (hg : RowsAt w v5 2 Gs.cells gs) :
    Calls Try.prog 42 #[bookV b v1 v2, v4, v5, iv a] w fun e w' => ∃ v, e = .returned (.tuple #[v, iv (possE b codes gs a).2]) ∧ w'.ownsRow w.heap.size 3 1 v (possE b codes gs a).1.length ((possE b codes gs a).1.map iv) ∧ Below w.heap.size w w' := by
  obtain ⟨_, A1, cap1, rfl, _, _⟩ := hL.ks.form
  obtain ⟨_, A2, cap2, rfl, _, _⟩ := hL.ds.form
  obtain ⟨_, A4, cap4, rfl, _, _⟩ := hc.form
  obtain ⟨_, A5, cap5, rfl, _, _⟩ := hg.form
  have HL := Lib.hid hL
  have HC := Lib.hid hc
  have HG := Lib.hid hg
  clear hL hc hg
  by_cases c1 : askE b codes gs = 0
  case neg =>
    have C1 := Lib.hid c1
    have c1' : (askE b codes gs == 0) = false := by rw [beq_eq_false_iff_ne]; exact c1
    have Hfin := Lib.hid (show possE b codes gs a = ([], askE b codes gs) by unfold possE; rw [if_pos c1])
    rw [Hfin.out]
    clear c1
    unfold bookV
    go_enter Try.func42, Try.ntmps42
    go_wp2_with fail
    refine (read_any _ _ _ _ b codes gs _ (HL.out.kept (up_alloc up0 _)) (HC.out.kept (up_alloc up0 _)) (HG.out.kept (up_alloc up0 _))).mono ?_
    rintro e w1 ⟨rfl, hb⟩
    rw [if_neg C1.out]
    unfold riddle0
    have hB := up_later (up_alloc (up0 (w := w)) (.cells #[iv b.n, iv b.w, .slice A1 b.ks.length cap1, .slice A2 b.ds.length cap2] 32)) hb
    clear hb
    go_wp2_with fail
    go_ret2
    exact ⟨_, rfl, World.ownsRow_nil _ _ _ _, up_alloc hB _⟩
  have C1 := Lib.hid c1
  obtain ⟨hok, hcl, hgl, hci, hgi⟩ := askE_zero c1
  have hn1 := hok.n1
  have hn2 := hok.n2
  have HI := Lib.hid (show ∀ x ∈ gs, 0 ≤ x.a ∧ x.a < codes.length ∧ 0 ≤ x.p ∧ x.p ≤ 1000 from fun x hx => by have := hgi x hx; omega)
  have HOK := Lib.hid hok
  have HCI := Lib.hid hci
  clear hok hci hgi
  cases c2 : belowB a codes.length with
  | false =>
    have Hfin := Lib.hid (show possE b codes gs a = ([], 2) by unfold possE; rw [if_neg (by simpa using c1), if_pos c2])
    have C2 := Lib.hid c2
    rw [Hfin.out]
    clear c1 c2
    unfold bookV
    go_enter Try.func42, Try.ntmps42
    go_wp2_with fail
    refine (read_any _ _ _ _ b codes gs _ (HL.out.kept (up_alloc up0 _)) (HC.out.kept (up_alloc up0 _)) (HG.out.kept (up_alloc up0 _))).mono ?_
    rintro e w1 ⟨rfl, hb⟩
    rw [if_pos C1.out, C1.out]
    unfold riddleV
    have hB := up_later (up_alloc (up0 (w := w)) (.cells #[iv b.n, iv b.w, .slice A1 b.ks.length cap1, .slice A2 b.ds.length cap2] 32)) hb
    clear hb
    go_wp2_with fail
    have HB := Lib.hid (up_alloc hB (.cells #[iv b.n, iv b.w, .slice A1 b.ks.length cap1, .slice A2 b.ds.length cap2, .slice none 0 0, .slice A4 codes.length cap4, .slice A5 gs.length cap5] 118))
    have B1 := Lib.hid (Box.new (w := w1) (t := 118) (cs := #[iv b.n, iv b.w, .slice A1 b.ks.length cap1, .slice A2 b.ds.length cap2, .slice none 0 0, .slice A4 codes.length cap4, .slice A5 gs.length cap5]) rfl)
    clear hB
    refine (hasCode_any _ _ _ _ _ _ _ _ _ _ _).mono ?_
    rintro e w2 ⟨rfl, hb⟩
    rw [C2.out]
    have HB := Lib.hid (up_later HB.out hb)
    have B1 := Lib.hid (B1.out.kept hb)
    clear hb
    have BB := B1.out
    have cB := fun i => BB.cell i
    have fB := fun i => BB.free i
    have lB := BB.lt
    have mB := Nat.lt_succ_of_lt lB
    go_wp2_with fail
    clear cB fB lB mB BB
    go_ret2
    exact ⟨_, rfl, World.ownsRow_nil _ _ _ _, HB.out⟩
  | true =>
    have C2 := Lib.hid c2
    have ha := belowB_iff.1 c2
    obtain ⟨i, rfl⟩ : ∃ i : Nat, a = i := ⟨a.toNat, by omega⟩
    have hil : i < codes.length := by omega
    by_cases c3 : possI b codes gs i = []
    · have Hfin := Lib.hid (show possE b codes gs i = ([], 11) by unfold possE; rw [if_neg (by simpa using c1), if_neg (by rw [c2]; simp), Int.toNat_natCast, if_pos c3])
      have C3 := Lib.hid c3
      rw [Hfin.out]
      clear c1 c2 c3
      unfold bookV
      go_enter Try.func42, Try.ntmps42
      go_wp2_with fail
      refine (read_any _ _ _ _ b codes gs _ (HL.out.kept (up_alloc up0 _)) (HC.out.kept (up_alloc up0 _)) (HG.out.kept (up_alloc up0 _))).mono ?_
      rintro e w1 ⟨rfl, hb⟩
      rw [if_pos C1.out, C1.out]
      unfold riddleV
      have hB := up_later (up_alloc (up0 (w := w)) (.cells #[iv b.n, iv b.w, .slice A1 b.ks.length cap1, .slice A2 b.ds.length cap2] 32)) hb
      clear hb
      go_wp2_with fail
      have HB := Lib.hid (up_alloc hB (.cells #[iv b.n, iv b.w, .slice A1 b.ks.length cap1, .slice A2 b.ds.length cap2, .slice none 0 0, .slice A4 codes.length cap4, .slice A5 gs.length cap5] 118))
      have B1 := Lib.hid (Box.new (w := w1) (t := 118) (cs := #[iv b.n, iv b.w, .slice A1 b.ks.length cap1, .slice A2 b.ds.length cap2, .slice none 0 0, .slice A4 codes.length cap4, .slice A5 gs.length cap5]) rfl)
      clear hB
      refine (hasCode_any _ _ _ _ _ _ _ _ _ _ _).mono ?_
      rintro e w2 ⟨rfl, hb⟩
      rw [C2.out]
      have HB := Lib.hid (up_later HB.out hb)
      have B1 := Lib.hid (B1.out.kept hb)
      clear hb
      have BB := B1.out
      have cB := fun i => BB.cell i
      have fB := fun i => BB.free i
      have lB := BB.lt
      have mB := Nat.lt_succ_of_lt lB
      go_wp2_with fail
      clear cB fB lB mB BB
      refine (possible_book b i _ _ _ _ _ codes gs _ HOK.out (HC.out.kept HB.out) (HG.out.kept HB.out) HI.out hil hcl HCI.out).mono ?_
      rintro e w3 ⟨v, rfl, ho, hb⟩
      rw [C3.out] at ho
      obtain ⟨A8, p8, rfl⟩ := own_form' ho
      have hb2 := up_later HB.out hb
      clear ho hb
      go_wp2_with fail
      go_ret2
      exact ⟨_, rfl, World.ownsRow_nil _ _ _ _, hb2⟩
    · have Hfin := Lib.hid (show possE b codes gs i = (possI b codes gs i, 0) by unfold possE; rw [if_neg (by simpa using c1), if_neg (by rw [c2]; simp), Int.toNat_natCast, if_neg c3])
      have hpl : (possI b codes gs i).length ≤ 41 := Nat.le_trans (possL_len _ _ _ _ _) (by omega)
      have hp1 : 0 < (possI b codes gs i).length := List.length_pos_iff.2 c3
      rw [Hfin.out]
      clear c1 c2 c3
      unfold bookV
      go_enter Try.func42, Try.ntmps42
      go_wp2_with fail
      refine (read_any _ _ _ _ b codes gs _ (HL.out.kept (up_alloc up0 _)) (HC.out.kept (up_alloc up0 _)) (HG.out.kept (up_alloc up0 _))).mono ?_
      rintro e w1 ⟨rfl, hb⟩
      rw [if_pos C1.out, C1.out]
      unfold riddleV
      have hB := up_later (up_alloc (up0 (w := w)) (.cells #[iv b.n, iv b.w, .slice A1 b.ks.length cap1, .slice A2 b.ds.length cap2] 32)) hb
      clear hb
      go_wp2_with fail
      have HB := Lib.hid (up_alloc hB (.cells #[iv b.n, iv b.w, .slice A1 b.ks.length cap1, .slice A2 b.ds.length cap2, .slice none 0 0, .slice A4 codes.length cap4, .slice A5 gs.length cap5] 118))
      have B1 := Lib.hid (Box.new (w := w1) (t := 118) (cs := #[iv b.n, iv b.w, .slice A1 b.ks.length cap1, .slice A2 b.ds.length cap2, .slice none 0 0, .slice A4 codes.length cap4, .slice A5 gs.length cap5]) rfl)
      clear hB
      refine (hasCode_any _ _ _ _ _ _ _ _ _ _ _).mono ?_
      rintro e w2 ⟨rfl, hb⟩
      rw [C2.out]
      have HB := Lib.hid (up_later HB.out hb)
      have B1 := Lib.hid (B1.out.kept hb)
      clear hb
      have BB := B1.out
      have cB := fun i => BB.cell i
      have fB := fun i => BB.free i
      have lB := BB.lt
      have mB := Nat.lt_succ_of_lt lB
      go_wp2_with fail
      clear cB fB lB mB BB
      refine (possible_book b i _ _ _ _ _ codes gs _ HOK.out (HC.out.kept HB.out) (HG.out.kept HB.out) HI.out hil hcl HCI.out).mono ?_
      rintro e w3 ⟨v, rfl, ho, hb⟩
      have HO := Lib.hid (own_mono ho HB.out.size)
      obtain ⟨A8, p8, rfl⟩ := own_form' ho
      have hb2 := Lib.hid (up_later HB.out hb)
      clear ho hb
      obtain ⟨N, hN⟩ : ∃ N, (possI b codes gs i).length = N := ⟨_, rfl⟩
      rw [hN] at hpl hp1 ⊢
      have HN := Lib.hid hN
      have n0 : ((N : Int) == 0) = false := by rw [beq_eq_false_iff_ne]; omega
      clear hN
      go_wp2_with fail
      go_ret2
      exact ⟨_, rfl, HN.out ▸ HO.out, hb2.out⟩

end Go.Proofs.Ytkhfkmfofhnmdaa

namespace Go.Proofs.Ytkhfkmfofhnmdaa
open Go.RowKit Go.Shelf
attribute [local go_sem] Oper.semAt_some

theorem nmA : codeE bk0 2 [4] = ([1, 7, 2], 0) := by decide +kernel
theorem nmB : planE bk0 [⟨0, 1⟩] 3 = ([1, 1, 1], 0, 0) := by decide +kernel
theorem nmC : possE bk0 [11, 0, 0] [⟨0, 4⟩, ⟨2, 4⟩] 1 = ([0, 1, 2, 3, 5, 6, 7, 8, 9, 10, 11, 12], 0) := by decide +kernel
theorem nmD : possE bk0 [11, 0, 0] [⟨0, 4⟩, ⟨2, 4⟩, ⟨1, 11⟩] 2 = ([4], 0) := by decide +kernel
theorem nmE : proveB bk0 [⟨0, 1⟩] 2 [0, 1, 1] 1 = true := by decide +kernel
theorem nmF : proveB bk0 [⟨0, 1⟩] 2 [0, 1, 1] 0 = false := by decide +kernel
theorem nmG : proveB bk0 [⟨0, 1⟩] 2 [0, 0, 1] 9 = false := by decide +kernel
theorem nmH : decodeE bk0 1 [0, 11, 0, 0, 9] = ([], [], 8) := by decide +kernel
theorem nmI : decodeE bk0 0 [0, 11, 0, 1, 9] = ([], [], 11) := by decide +kernel
theorem nmJ : decodeE bk0 0 [0] = ([], [], 4) := by decide +kernel
theorem nmK : codeE bk0 3 [] = ([], 2) := by decide +kernel
theorem nmL : codeE bk0 0 [0, 0, 0, 0, 0, 0, 0, 0, 0, 0, 0] = ([], 3) := by decide +kernel
theorem nmM : codeE bk0 0 [13] = ([], 2) := by decide +kernel
theorem nmN : planE bk0 [⟨0, 1⟩] 1 = ([], 0, 10) := by decide +kernel
theorem nmO : planE bk0 [⟨0, 1⟩] 9 = ([], 0, 2) := by decide +kernel
theorem nmP : exposedE bk0 [⟨0, 0⟩, ⟨0, 0⟩, ⟨0, 0⟩, ⟨0, 0⟩, ⟨0, 0⟩, ⟨0, 0⟩, ⟨0, 0⟩] = ([], 3) := by decide +kernel
theorem nmQ : fitsE bk0 [11, 12] [⟨0, 4⟩, ⟨0, 5⟩] = (0, 11) := by decide +kernel
theorem nmR : possE bk0 [11, 0] [] 2 = ([], 2) := by decide +kernel
theorem nmS : bookE ⟨15, 10, [⟨2, 3, 1⟩, ⟨5, 0, 0⟩], [0, 0, 1]⟩ = 1 := by decide +kernel
theorem nmT : bookE ⟨13, 14, [⟨2, 3, 1⟩, ⟨5, 0, 0⟩], [0, 0, 1]⟩ = 1 := by decide +kernel
theorem nmU : bookE ⟨13, 10, [⟨0, 3, 1⟩, ⟨5, 0, 0⟩], [0, 0, 1]⟩ = 1 := by decide +kernel
theorem nmV : bookE ⟨13, 10, [⟨0, 0, 0⟩, ⟨0, 0, 0⟩, ⟨0, 0, 0⟩, ⟨0, 0, 0⟩, ⟨0, 0, 0⟩, ⟨0, 0, 0⟩], [0, 0, 1]⟩ = 3 := by decide +kernel
theorem nmW : bookE ⟨13, 10, [⟨2, 3, 1⟩, ⟨5, 0, 0⟩], [2, 0, 1]⟩ = 1 := by decide +kernel
theorem nmX : bookE ⟨0, 0, [], []⟩ = 1 := by decide +kernel

def Fact.bk : Fact := ⟨fun v w => ∃ v1 v2, v = bookV bk0 v1 v2 ∧ BookAt w v1 v2 bk0, fun _ _ _ h hb => (by obtain ⟨v1, v2, h, h1⟩ := h; exact ⟨v1, v2, h, h1.kept hb⟩), false, fun _ _ h => by cases h⟩
def Fact.er (E : Int) : Fact := ⟨fun v _ => ∃ u, v = .tuple #[u, iv E], fun _ _ _ h _ => h, false, fun _ _ h => by cases h⟩
def Fact.tr : Fact := ⟨fun _ _ => True, fun _ _ _ h _ => h, false, fun _ _ h => by cases h⟩
theorem gs_info : (Try.prog.info? 74).map (fun i => (i.zero, i.size, i.bytes)) = some (some (.agg #[iv 0, iv 0]), 2, 16) := by kernel_rfl
/-- A block of one's own, read whole. -/
theorem own_box {w : World} {g t sz n base : Nat} {cs : Array Value} (h : Box w g t cs) (hb : base ≤ g) (hn : cs.size = n * sz) (h1 : n ≤ 1000) : w.ownsRow base t sz (.slice (some ⟨g, 0, none⟩) n n) n cs.toList :=
  ⟨by simpa using hn, .inr ⟨g, n, cs, rfl, hb, h, Nat.le_refl _, by unfold maxLen; omega, hn, by rw [List.take_of_length_le (by simp; omega)]⟩⟩
/-- Rows of a block: what stands in it, cut into rows. -/
theorem rows_box {α : Type} {w : World} {g t sz n : Nat} {cs : Array Value} {cells : α → List Value} {l : List α} (h : Box w g t cs) (hn : n = l.length) (hl : l.length ≤ 1000) (hs : ∀ x, (cells x).length = sz) (hz : cs.size = n * sz) (hc : cs.toList = l.flatMap cells) : RowsAt w (.slice (some ⟨g, 0, none⟩) n n) sz cells l :=
  RowsAt.of_ownM hs (by rw [← hc]; exact own_box h (Nat.zero_le g) hz (by omega)) hn hl
set_option maxHeartbeats 400000 in
theorem book1_any (w : World) : Calls Try.prog 45 #[] w fun e w' => ∃ g1 g2, e = .returned (.agg #[iv 13, iv 10, .slice (some ⟨g1, 0, none⟩) 2 2, .slice (some ⟨g2, 0, none⟩) 3 3]) ∧ Box w' g1 78 #[iv 2, iv 3, iv 1, iv 5, iv 0, iv 0] ∧ Box w' g2 3 #[iv 0, iv 0, iv 1] ∧ w.heap.size ≤ g1 ∧ g1 < g2 ∧ Below w.heap.size w w' := by
  go_enter Try.func45, Try.ntmps45
  go_wp2_with fail
  have N1 := ((Box.new (w := w) (t := 32) (cs := #[iv 13, iv 10, .slice (some ⟨w.heap.size + 1, 0, none⟩) 2 2, .slice (some ⟨w.heap.size + 1 + 1, 0, none⟩) 3 3]) rfl).alloc (.cells #[iv 2, iv 3, iv 1, iv 5, iv 0, iv 0] 78)).alloc (.cells #[iv 0, iv 0, iv 1] 3)
  have N2 := (Box.new (w := w.alloc (.cells #[iv 13, iv 10, .slice (some ⟨w.heap.size + 1, 0, none⟩) 2 2, .slice (some ⟨w.heap.size + 1 + 1, 0, none⟩) 3 3] 32)) (g := w.heap.size + 1) (t := 78) (cs := #[iv 2, iv 3, iv 1, iv 5, iv 0, iv 0]) (by simp)).alloc (.cells #[iv 0, iv 0, iv 1] 3)
  have N3 := Box.new (w := (w.alloc (.cells #[iv 13, iv 10, .slice (some ⟨w.heap.size + 1, 0, none⟩) 2 2, .slice (some ⟨w.heap.size + 1 + 1, 0, none⟩) 3 3] 32)).alloc (.cells #[iv 2, iv 3, iv 1, iv 5, iv 0, iv 0] 78)) (g := w.heap.size + 1 + 1) (t := 3) (cs := #[iv 0, iv 0, iv 1]) (by simp)
  refine bodyPost_ret (v := .agg #[iv 13, iv 10, .slice (some ⟨w.heap.size + 1, 0, none⟩) 2 2, .slice (some ⟨w.heap.size + 1 + 1, 0, none⟩) 3 3]) (by
    have cN := fun i => N1.cell i
    simp [results, Try.results45, go_sem, cN]) rfl ⟨_, _, rfl, N2, N3, by omega, by omega, up_alloc (up_alloc (up_alloc up0 _) _) _⟩
end Go.Proofs.Ytkhfkmfofhnmdaa

namespace Go.Proofs.Ytkhfkmfofhnmdaa
open Go.RowKit Go.Shelf
attribute [local go_sem] Oper.semAt_some

set_option maxRecDepth 100000 in
set_option maxHeartbeats 6000000 in
theorem names_any (w0 : World) : Calls Try.prog 8 #[] w0 fun e w' => e = .returned (.bool true) ∧ Below w0.heap.size w0 w' := by
  go_enter Try.func8, Try.ntmps8
  go_wp2_with fail
  have HT := Lib.hid (Box.new (w := w0) (t := 74) (cs := #[iv 0, iv 4, iv 2, iv 4]) rfl)
  have HB := Lib.hid (up_alloc (up0 (w := w0)) (.cells #[iv 0, iv 4, iv 2, iv 4] 74))
  refine (book0_any _).mono ?_
  rintro e w1 ⟨v1, v2, rfl, hq, hb⟩
  have HQ := Lib.hid hq
  clear hq
  have HB := Lib.hid (up_later HB.out hb)
  have HT := Lib.hid (HT.out.kept hb)
  clear hb
  unfold bookV
  go_wp2_with fail
  refine (Code_any _ _ _ bk0 2 [4] _ (HQ.out.kept (up_alloc up0 _)) (ints_box (l := [4]) (Box.new rfl) (by decide))).mono ?_
  rintro e w2 ⟨c, rfl, hq, hb⟩
  rw [nmA] at hq ⊢
  have HC := Lib.hid (ints_of_own hq rfl (by decide))
  have hb := up_later (up_alloc (up0 (w := w1)) (.cells #[iv 4] 3)) hb
  clear hq HQ
  have HB := Lib.hid (up_later HB.out hb)
  have HT := Lib.hid (HT.out.kept hb)
  clear hb
  go_wp2_with fail
  refine (book0_any _).mono ?_
  rintro e w3 ⟨v1, v2, rfl, hq, hb⟩
  have HQ := Lib.hid hq
  clear hq
  have HB := Lib.hid (up_later HB.out hb)
  have HT := Lib.hid (HT.out.kept hb)
  have HC := Lib.hid (HC.out.kept hb)
  clear hb
  unfold bookV
  go_wp2_with fail
  refine (early0_any _).mono ?_
  rintro e w4 ⟨v3, rfl, hq, hb⟩
  have HE := Lib.hid hq
  clear hq
  have HB := Lib.hid (up_later HB.out hb)
  have HT := Lib.hid (HT.out.kept hb)
  have HC := Lib.hid (HC.out.kept hb)
  have HQ := Lib.hid (HQ.out.kept hb)
  clear hb
  go_wp2_with fail
  refine (Plan_any _ _ _ bk0 [⟨0, 1⟩] 3 _ HQ.out HE.out).mono ?_
  rintro e w5 ⟨pl, rfl, hq, hb⟩
  rw [nmB] at hq ⊢
  have HN := Lib.hid hq
  clear hq HQ HE
  have HB := Lib.hid (up_later HB.out hb)
  have HT := Lib.hid (HT.out.kept hb)
  have HC := Lib.hid (HC.out.kept hb)
  clear hb
  go_wp2_with fail
  refine (book0_any _).mono ?_
  rintro e w6 ⟨v1, v2, rfl, hq, hb⟩
  have HQ := Lib.hid hq
  clear hq
  have HB := Lib.hid (up_later HB.out hb)
  have HT := Lib.hid (HT.out.kept hb)
  have HC := Lib.hid (HC.out.kept hb)
  have HN := Lib.hid (HN.out.kept hb)
  clear hb
  unfold bookV
  go_wp2_with fail
  refine (Possible_any _ _ _ _ bk0 [11, 0, 0] [⟨0, 4⟩, ⟨2, 4⟩] 1 _ (HQ.out.kept (up_alloc up0 _)) (ints_box (l := [11, 0, 0]) (Box.new rfl) (by decide)) (guesses0 (HT.out.kept (up_alloc up0 _)))).mono ?_
  rintro e w7 ⟨p, rfl, hq, hb⟩
  rw [nmC] at hq ⊢
  have HP := Lib.hid (ints_of_own hq rfl (by decide))
  have hb := up_later (up_alloc (up0 (w := w6)) (.cells #[iv 11, iv 0, iv 0] 3)) hb
  clear hq HQ
  have HB := Lib.hid (up_later HB.out hb)
  have HT := Lib.hid (HT.out.kept hb)
  have HC := Lib.hid (HC.out.kept hb)
  have HN := Lib.hid (HN.out.kept hb)
  clear hb
  obtain ⟨i1, hi1, hz10, hz11, hz12⟩ := info_parts gs_info
  go_wp2_with fail
  refine (book0_any _).mono ?_
  rintro e w8 ⟨v1, v2, rfl, hq, hb⟩
  have HQ := Lib.hid hq
  clear hq
  have HB := Lib.hid (up_later HB.out hb)
  have HT := Lib.hid (HT.out.kept hb)
  have HC := Lib.hid (HC.out.kept hb)
  have HN := Lib.hid (HN.out.kept hb)
  have HP := Lib.hid (HP.out.kept hb)
  clear hb
  unfold bookV
  have hb := up_alloc (up_alloc (up0 (w := w8)) (.cells #[iv 11, iv 0, iv 0] 3)) (.cells #[iv 1, iv 11] 74)
  have HI := Lib.hid (((ints_box (l := [11, 0, 0]) (Box.new (w := w8) (t := 3) (cs := #[iv 11, iv 0, iv 0]) rfl) (by decide))).kept (up_alloc up0 (.cells #[iv 1, iv 11] 74)))
  have HM := Lib.hid (Box.new (w := w8.alloc (.cells #[iv 11, iv 0, iv 0] 3)) (g := w8.heap.size + 1) (t := 74) (cs := #[iv 1, iv 11]) (by simp))
  have HB := Lib.hid (up_later HB.out hb)
  have HT := Lib.hid (HT.out.kept hb)
  have HC := Lib.hid (HC.out.kept hb)
  have HN := Lib.hid (HN.out.kept hb)
  have HP := Lib.hid (HP.out.kept hb)
  have HQ := Lib.hid (HQ.out.kept hb)
  clear hb
  go_wp2_with (at_builtin; refine wpList_append_grows _ rfl (.tmp 58) (.tmp 60) 66 rfl 74 i1 (.agg #[iv 0, iv 0]) 2 16 Try.underlying66 hi1 hz10 hz11 hz12 rfl (by decide) (some ⟨w0.heap.size, 0, none⟩) 2 2 [iv 0, iv 4, iv 2, iv 4] rfl (fun h => by cases h) rfl (fun b e => by cases e; exact box_newsM HT.out) ⟨w8.heap.size + 1, 0, none⟩ 1 1 [iv 1, iv 11] rfl rfl (box_newsM HM.out) (by simp [Value.oneCell']) (by decide) (by unfold maxLen; decide) (by decide) ?_; intro v7 w9 hown hgrow)
  have hb := Below.grown (Below.refl _ _) hgrow (Nat.le_refl _) (fun g e => by cases e)
  have HG := Lib.hid (show RowsAt w9 v7 2 Gs.cells ([⟨0, 4⟩, ⟨2, 4⟩, ⟨1, 11⟩] : List Gs) from RowsAt.of_ownM (l := ([⟨0, 4⟩, ⟨2, 4⟩, ⟨1, 11⟩] : List Gs)) (fun _ => rfl) hown rfl (by decide))
  clear hown hgrow HM HT
  have HB := Lib.hid (up_later HB.out hb)
  have HC := Lib.hid (HC.out.kept hb)
  have HN := Lib.hid (HN.out.kept hb)
  have HP := Lib.hid (HP.out.kept hb)
  have HQ := Lib.hid (HQ.out.kept hb)
  have HI := Lib.hid (HI.out.kept hb)
  clear hb
  refine (Possible_any _ _ _ _ bk0 [11, 0, 0] [⟨0, 4⟩, ⟨2, 4⟩, ⟨1, 11⟩] 2 _ HQ.out HI.out HG.out).mono ?_
  rintro e w10 ⟨q, rfl, hq, hb⟩
  rw [nmD] at hq ⊢
  have HR := Lib.hid (ints_of_own hq rfl (by decide))
  clear hq HQ HI HG
  have HB := Lib.hid (up_later HB.out hb)
  have HC := Lib.hid (HC.out.kept hb)
  have HN := Lib.hid (HN.out.kept hb)
  have HP := Lib.hid (HP.out.kept hb)
  clear hb
  go_wp2_with fail
  refine (same_any _ _ [1, 7, 2] [1, 7, 2] _ (HC.out.kept (up_alloc up0 _)) (ints_box (l := [1, 7, 2]) (Box.new rfl) (by decide))).mono ?_
  rintro e w11 ⟨rfl, hb⟩
  have hb := up_later (up_alloc (up0 (w := w10)) (.cells #[iv 1, iv 7, iv 2] 3)) hb
  clear HC
  have HB := Lib.hid (up_later HB.out hb)
  have HN := Lib.hid (HN.out.kept hb)
  have HP := Lib.hid (HP.out.kept hb)
  have HR := Lib.hid (HR.out.kept hb)
  clear hb
  go_wp2_with fail
  refine (same_any _ _ [1, 1, 1] [1, 1, 1] _ (HN.out.kept (up_alloc up0 _)) (ints_box (l := [1, 1, 1]) (Box.new rfl) (by decide))).mono ?_
  rintro e w12 ⟨rfl, hb⟩
  have hb := up_later (up_alloc (up0 (w := w11)) (.cells #[iv 1, iv 1, iv 1] 3)) hb
  clear HN
  have HB := Lib.hid (up_later HB.out hb)
  have HP := Lib.hid (HP.out.kept hb)
  have HR := Lib.hid (HR.out.kept hb)
  clear hb
  go_wp2_with fail
  refine (same_any _ _ [0, 1, 2, 3, 5, 6, 7, 8, 9, 10, 11, 12] [0, 1, 2, 3, 5, 6, 7, 8, 9, 10, 11, 12] _ (HP.out.kept (up_alloc up0 _)) (ints_box (l := [0, 1, 2, 3, 5, 6, 7, 8, 9, 10, 11, 12]) (Box.new rfl) (by decide))).mono ?_
  rintro e w13 ⟨rfl, hb⟩
  have hb := up_later (up_alloc (up0 (w := w12)) (.cells #[iv 0, iv 1, iv 2, iv 3, iv 5, iv 6, iv 7, iv 8, iv 9, iv 10, iv 11, iv 12] 3)) hb
  clear HP
  have HB := Lib.hid (up_later HB.out hb)
  have HR := Lib.hid (HR.out.kept hb)
  clear hb
  go_wp2_with fail
  refine (same_any _ _ [4] [4] _ (HR.out.kept (up_alloc up0 _)) (ints_box (l := [4]) (Box.new rfl) (by decide))).mono ?_
  rintro e w14 ⟨rfl, hb⟩
  have hb := up_later (up_alloc (up0 (w := w13)) (.cells #[iv 4] 3)) hb
  clear HR
  have HB := Lib.hid (up_later HB.out hb)
  clear hb
  go_wp2_with fail
  refine (book0_any _).mono ?_
  rintro e w15 ⟨v1, v2, rfl, hq, hb⟩
  have HQ := Lib.hid hq
  clear hq
  have HB := Lib.hid (up_later HB.out hb)
  clear hb
  unfold bookV
  go_wp2_with fail
  refine (early0_any _).mono ?_
  rintro e w16 ⟨v3, rfl, hq, hb⟩
  have HE := Lib.hid hq
  clear hq
  have HB := Lib.hid (up_later HB.out hb)
  have HQ := Lib.hid (HQ.out.kept hb)
  clear hb
  go_wp2_with fail
  refine (ProvePlan_any _ _ _ _ bk0 [⟨0, 1⟩] 2 [0, 1, 1] 1 _ (HQ.out.kept (up_alloc up0 _)) (HE.out.kept (up_alloc up0 _)) (ints_box (l := [0, 1, 1]) (Box.new rfl) (by decide))).mono ?_
  rintro e w17 ⟨rfl, hb⟩
  rw [nmE]
  have hb := up_later (up_alloc (up0 (w := w16)) (.cells #[iv 0, iv 1, iv 1] 3)) hb
  clear HQ HE
  have HB := Lib.hid (up_later HB.out hb)
  clear hb
  go_wp2_with fail
  refine (book0_any _).mono ?_
  rintro e w18 ⟨v1, v2, rfl, hq, hb⟩
  have HQ := Lib.hid hq
  clear hq
  have HB := Lib.hid (up_later HB.out hb)
  clear hb
  unfold bookV
  go_wp2_with fail
  refine (early0_any _).mono ?_
  rintro e w19 ⟨v3, rfl, hq, hb⟩
  have HE := Lib.hid hq
  clear hq
  have HB := Lib.hid (up_later HB.out hb)
  have HQ := Lib.hid (HQ.out.kept hb)
  clear hb
  go_wp2_with fail
  refine (ProvePlan_any _ _ _ _ bk0 [⟨0, 1⟩] 2 [0, 1, 1] 0 _ (HQ.out.kept (up_alloc up0 _)) (HE.out.kept (up_alloc up0 _)) (ints_box (l := [0, 1, 1]) (Box.new rfl) (by decide))).mono ?_
  rintro e w20 ⟨rfl, hb⟩
  rw [nmF]
  have hb := up_later (up_alloc (up0 (w := w19)) (.cells #[iv 0, iv 1, iv 1] 3)) hb
  clear HQ HE
  have HB := Lib.hid (up_later HB.out hb)
  clear hb
  go_wp2_with fail
  refine (book0_any _).mono ?_
  rintro e w21 ⟨v1, v2, rfl, hq, hb⟩
  have HQ := Lib.hid hq
  clear hq
  have HB := Lib.hid (up_later HB.out hb)
  clear hb
  unfold bookV
  go_wp2_with fail
  refine (early0_any _).mono ?_
  rintro e w22 ⟨v3, rfl, hq, hb⟩
  have HE := Lib.hid hq
  clear hq
  have HB := Lib.hid (up_later HB.out hb)
  have HQ := Lib.hid (HQ.out.kept hb)
  clear hb
  go_wp2_with fail
  refine (ProvePlan_any _ _ _ _ bk0 [⟨0, 1⟩] 2 [0, 0, 1] 9 _ (HQ.out.kept (up_alloc up0 _)) (HE.out.kept (up_alloc up0 _)) (ints_box (l := [0, 0, 1]) (Box.new rfl) (by decide))).mono ?_
  rintro e w23 ⟨rfl, hb⟩
  rw [nmG]
  have hb := up_later (up_alloc (up0 (w := w22)) (.cells #[iv 0, iv 0, iv 1] 3)) hb
  clear HQ HE
  have HB := Lib.hid (up_later HB.out hb)
  clear hb
  go_wp2_with fail
  have hb0 := HB.out.size
  refine (book1_any _).mono ?_
  rintro e w24 ⟨g1, h1, rfl, hk1, hd1, gl1, gh1, hb⟩
  have hs1 := hb.size
  have lt1 := hd1.lt
  have KN1 := Lib.hid hk1
  have DN1 := Lib.hid hd1
  clear hk1 hd1
  have HB := Lib.hid (up_later HB.out hb)
  clear hb
  go_wp2_with fail
  refine (book1_any _).mono ?_
  rintro e w25 ⟨g2, h2, rfl, hk2, hd2, gl2, gh2, hb⟩
  have hs2 := hb.size
  have lt2 := hd2.lt
  have KN2 := Lib.hid hk2
  have DN2 := Lib.hid hd2
  clear hk2 hd2
  have HB := Lib.hid (up_later HB.out hb)
  have KN1 := Lib.hid (KN1.out.kept hb)
  have DN1 := Lib.hid (DN1.out.kept hb)
  clear hb
  go_wp2_with fail
  refine (book1_any _).mono ?_
  rintro e w26 ⟨g3, h3, rfl, hk3, hd3, gl3, gh3, hb⟩
  have hs3 := hb.size
  have lt3 := hd3.lt
  have KN3 := Lib.hid hk3
  have DN3 := Lib.hid hd3
  clear hk3 hd3
  have HB := Lib.hid (up_later HB.out hb)
  have KN1 := Lib.hid (KN1.out.kept hb)
  have DN1 := Lib.hid (DN1.out.kept hb)
  have KN2 := Lib.hid (KN2.out.kept hb)
  have DN2 := Lib.hid (DN2.out.kept hb)
  clear hb
  go_wp2_with fail
  refine (book1_any _).mono ?_
  rintro e w27 ⟨g4, h4, rfl, hk4, hd4, gl4, gh4, hb⟩
  have hs4 := hb.size
  have lt4 := hd4.lt
  have KN4 := Lib.hid hk4
  have DN4 := Lib.hid hd4
  clear hk4 hd4
  have HB := Lib.hid (up_later HB.out hb)
  have KN1 := Lib.hid (KN1.out.kept hb)
  have DN1 := Lib.hid (DN1.out.kept hb)
  have KN2 := Lib.hid (KN2.out.kept hb)
  have DN2 := Lib.hid (DN2.out.kept hb)
  have KN3 := Lib.hid (KN3.out.kept hb)
  have DN3 := Lib.hid (DN3.out.kept hb)
  clear hb
  go_wp2_with fail
  refine (book1_any _).mono ?_
  rintro e w28 ⟨g5, h5, rfl, hk5, hd5, gl5, gh5, hb⟩
  have hs5 := hb.size
  have lt5 := hd5.lt
  have KN5 := Lib.hid hk5
  have DN5 := Lib.hid hd5
  clear hk5 hd5
  have HB := Lib.hid (up_later HB.out hb)
  have KN1 := Lib.hid (KN1.out.kept hb)
  have DN1 := Lib.hid (DN1.out.kept hb)
  have KN2 := Lib.hid (KN2.out.kept hb)
  have DN2 := Lib.hid (DN2.out.kept hb)
  have KN3 := Lib.hid (KN3.out.kept hb)
  have DN3 := Lib.hid (DN3.out.kept hb)
  have KN4 := Lib.hid (KN4.out.kept hb)
  have DN4 := Lib.hid (DN4.out.kept hb)
  clear hb
  go_upto_region 11 with fail
  obtain ⟨X1, hX1⟩ : ∃ X, (((((w28.alloc (.cells #[iv 15, iv 10, .slice (some ⟨g1, 0, none⟩) 2 2, .slice (some ⟨h1, 0, none⟩) 3 3] 32)).alloc (.cells #[iv 13, iv 14, .slice (some ⟨g2, 0, none⟩) 2 2, .slice (some ⟨h2, 0, none⟩) 3 3] 32)).alloc (.cells #[iv 13, iv 10, .slice (some ⟨g3, 0, none⟩) 2 2, .slice (some ⟨h3, 0, none⟩) 3 3] 32)).alloc (.cells #[iv 13, iv 10, .slice (some ⟨g4, 0, none⟩) 2 2, .slice (some ⟨h4, 0, none⟩) 3 3] 32)).alloc (.cells #[iv 13, iv 10, .slice (some ⟨g5, 0, none⟩) 2 2, .slice (some ⟨h5, 0, none⟩) 3 3] 32)) = X := ⟨_, rfl⟩
  have hb : Below w28.heap.size w28 X1 := hX1 ▸ up_alloc (up_alloc (up_alloc (up_alloc (up_alloc (up0 (w := w28)) (.cells #[iv 15, iv 10, .slice (some ⟨g1, 0, none⟩) 2 2, .slice (some ⟨h1, 0, none⟩) 3 3] 32)) (.cells #[iv 13, iv 14, .slice (some ⟨g2, 0, none⟩) 2 2, .slice (some ⟨h2, 0, none⟩) 3 3] 32)) (.cells #[iv 13, iv 10, .slice (some ⟨g3, 0, none⟩) 2 2, .slice (some ⟨h3, 0, none⟩) 3 3] 32)) (.cells #[iv 13, iv 10, .slice (some ⟨g4, 0, none⟩) 2 2, .slice (some ⟨h4, 0, none⟩) 3 3] 32)) (.cells #[iv 13, iv 10, .slice (some ⟨g5, 0, none⟩) 2 2, .slice (some ⟨h5, 0, none⟩) 3 3] 32)
  have N1 : Box X1 (w28.heap.size) 32 #[iv 15, iv 10, .slice (some ⟨g1, 0, none⟩) 2 2, .slice (some ⟨h1, 0, none⟩) 3 3] := hX1 ▸ ((((Box.new (w := w28) (g := w28.heap.size) (t := 32) (cs := #[iv 15, iv 10, .slice (some ⟨g1, 0, none⟩) 2 2, .slice (some ⟨h1, 0, none⟩) 3 3]) (by simp)).alloc _).alloc _).alloc _).alloc _
  have N2 : Box X1 (w28.heap.size + 1) 32 #[iv 13, iv 14, .slice (some ⟨g2, 0, none⟩) 2 2, .slice (some ⟨h2, 0, none⟩) 3 3] := hX1 ▸ (((Box.new (w := (w28.alloc (.cells #[iv 15, iv 10, .slice (some ⟨g1, 0, none⟩) 2 2, .slice (some ⟨h1, 0, none⟩) 3 3] 32))) (g := w28.heap.size + 1) (t := 32) (cs := #[iv 13, iv 14, .slice (some ⟨g2, 0, none⟩) 2 2, .slice (some ⟨h2, 0, none⟩) 3 3]) (by simp)).alloc _).alloc _).alloc _
  have N3 : Box X1 (w28.heap.size + 1 + 1) 32 #[iv 13, iv 10, .slice (some ⟨g3, 0, none⟩) 2 2, .slice (some ⟨h3, 0, none⟩) 3 3] := hX1 ▸ ((Box.new (w := ((w28.alloc (.cells #[iv 15, iv 10, .slice (some ⟨g1, 0, none⟩) 2 2, .slice (some ⟨h1, 0, none⟩) 3 3] 32)).alloc (.cells #[iv 13, iv 14, .slice (some ⟨g2, 0, none⟩) 2 2, .slice (some ⟨h2, 0, none⟩) 3 3] 32))) (g := w28.heap.size + 1 + 1) (t := 32) (cs := #[iv 13, iv 10, .slice (some ⟨g3, 0, none⟩) 2 2, .slice (some ⟨h3, 0, none⟩) 3 3]) (by simp)).alloc _).alloc _
  have N4 : Box X1 (w28.heap.size + 1 + 1 + 1) 32 #[iv 13, iv 10, .slice (some ⟨g4, 0, none⟩) 2 2, .slice (some ⟨h4, 0, none⟩) 3 3] := hX1 ▸ (Box.new (w := (((w28.alloc (.cells #[iv 15, iv 10, .slice (some ⟨g1, 0, none⟩) 2 2, .slice (some ⟨h1, 0, none⟩) 3 3] 32)).alloc (.cells #[iv 13, iv 14, .slice (some ⟨g2, 0, none⟩) 2 2, .slice (some ⟨h2, 0, none⟩) 3 3] 32)).alloc (.cells #[iv 13, iv 10, .slice (some ⟨g3, 0, none⟩) 2 2, .slice (some ⟨h3, 0, none⟩) 3 3] 32))) (g := w28.heap.size + 1 + 1 + 1) (t := 32) (cs := #[iv 13, iv 10, .slice (some ⟨g4, 0, none⟩) 2 2, .slice (some ⟨h4, 0, none⟩) 3 3]) (by simp)).alloc _
  have N5 : Box X1 (w28.heap.size + 1 + 1 + 1 + 1) 32 #[iv 13, iv 10, .slice (some ⟨g5, 0, none⟩) 2 2, .slice (some ⟨h5, 0, none⟩) 3 3] := hX1 ▸ Box.new (w := ((((w28.alloc (.cells #[iv 15, iv 10, .slice (some ⟨g1, 0, none⟩) 2 2, .slice (some ⟨h1, 0, none⟩) 3 3] 32)).alloc (.cells #[iv 13, iv 14, .slice (some ⟨g2, 0, none⟩) 2 2, .slice (some ⟨h2, 0, none⟩) 3 3] 32)).alloc (.cells #[iv 13, iv 10, .slice (some ⟨g3, 0, none⟩) 2 2, .slice (some ⟨h3, 0, none⟩) 3 3] 32)).alloc (.cells #[iv 13, iv 10, .slice (some ⟨g4, 0, none⟩) 2 2, .slice (some ⟨h4, 0, none⟩) 3 3] 32))) (g := w28.heap.size + 1 + 1 + 1 + 1) (t := 32) (cs := #[iv 13, iv 10, .slice (some ⟨g5, 0, none⟩) 2 2, .slice (some ⟨h5, 0, none⟩) 3 3]) (by simp)
  rw [hX1]
  clear hX1
  have K1 := KN1.out.kept hb
  have D1 := DN1.out.kept hb
  have K2 := KN2.out.kept hb
  have D2 := DN2.out.kept hb
  have K3 := KN3.out.kept hb
  have D3 := DN3.out.kept hb
  have K4 := KN4.out.kept hb
  have D4 := DN4.out.kept hb
  have K5 := KN5.out.kept hb
  have D5 := DN5.out.kept hb
  have HB := Lib.hid (up_later HB.out hb)
  have sX := hb.size
  clear hb KN1 DN1 KN2 DN2 KN3 DN3 KN4 DN4 KN5 DN5
  have cN3 := fun i => N3.cell i
  have fN3 := fun i => N3.free i
  have lN3 := N3.lt
  have cK3 := fun i => K3.cell i
  have fK3 := fun i => K3.free i
  have lK3 := K3.lt
  go_upto_region 12 with fail
  clear cN3 fN3 lN3 cK3 fK3 lK3
  obtain ⟨X2, hX2⟩ : ∃ X, X1.setCell ⟨g3, 0, none⟩ (iv 0) = X := ⟨_, rfl⟩
  have N1 := N1.far (p := ⟨g3, 0, none⟩) (by show _ ≠ g3; omega) (iv 0)
  rw [hX2] at N1
  have N2 := N2.far (p := ⟨g3, 0, none⟩) (by show _ ≠ g3; omega) (iv 0)
  rw [hX2] at N2
  have N3 := N3.far (p := ⟨g3, 0, none⟩) (by show _ ≠ g3; omega) (iv 0)
  rw [hX2] at N3
  have N4 := N4.far (p := ⟨g3, 0, none⟩) (by show _ ≠ g3; omega) (iv 0)
  rw [hX2] at N4
  have N5 := N5.far (p := ⟨g3, 0, none⟩) (by show _ ≠ g3; omega) (iv 0)
  rw [hX2] at N5
  have K1 := K1.far (p := ⟨g3, 0, none⟩) (by show _ ≠ g3; omega) (iv 0)
  rw [hX2] at K1
  have K2 := K2.far (p := ⟨g3, 0, none⟩) (by show _ ≠ g3; omega) (iv 0)
  rw [hX2] at K2
  have K3 : Box X2 (g3) 78 #[iv 0, iv 3, iv 1, iv 5, iv 0, iv 0] := by rw [← hX2]; simpa using K3.put 0 (iv 0)
  have K4 := K4.far (p := ⟨g3, 0, none⟩) (by show _ ≠ g3; omega) (iv 0)
  rw [hX2] at K4
  have K5 := K5.far (p := ⟨g3, 0, none⟩) (by show _ ≠ g3; omega) (iv 0)
  rw [hX2] at K5
  have D1 := D1.far (p := ⟨g3, 0, none⟩) (by show _ ≠ g3; omega) (iv 0)
  rw [hX2] at D1
  have D2 := D2.far (p := ⟨g3, 0, none⟩) (by show _ ≠ g3; omega) (iv 0)
  rw [hX2] at D2
  have D3 := D3.far (p := ⟨g3, 0, none⟩) (by show _ ≠ g3; omega) (iv 0)
  rw [hX2] at D3
  have D4 := D4.far (p := ⟨g3, 0, none⟩) (by show _ ≠ g3; omega) (iv 0)
  rw [hX2] at D4
  have D5 := D5.far (p := ⟨g3, 0, none⟩) (by show _ ≠ g3; omega) (iv 0)
  rw [hX2] at D5
  have zX2 : X1.heap.size = X2.heap.size := by rw [← hX2]; simp
  have HB := Lib.hid (show Below w0.heap.size w0 X2 from by rw [← hX2]; exact up_put HB.out (by simp; omega) _)
  rw [hX2]
  clear hX2
  have hm : ∀ w, (Instr.makeSlice 30 (.int .i64 6) (.int .i64 6)).run Try.prog w = .ok (.slice (some ⟨w.heap.size, 0, none⟩) 6 6) (w.alloc (.cells #[iv 0, iv 0, iv 0, iv 0, iv 0, iv 0, iv 0, iv 0, iv 0, iv 0, iv 0, iv 0, iv 0, iv 0, iv 0, iv 0, iv 0, iv 0] 78)) := fun w => by kernel_rfl
  have cN4 := fun i => N4.cell i
  have fN4 := fun i => N4.free i
  have lN4 := N4.lt
  go_upto_region 13 with fail
  clear cN4 fN4 lN4
  clear hm
  obtain ⟨X3, hX3⟩ : ∃ X, X2.setCell ⟨w28.heap.size + 1 + 1 + 1, 2, none⟩ (.slice (some ⟨X2.heap.size, 0, none⟩) 6 6) = X := ⟨_, rfl⟩
  have N1 := N1.far (p := ⟨w28.heap.size + 1 + 1 + 1, 2, none⟩) (by show _ ≠ w28.heap.size + 1 + 1 + 1; omega) (.slice (some ⟨X2.heap.size, 0, none⟩) 6 6)
  rw [hX3] at N1
  have N2 := N2.far (p := ⟨w28.heap.size + 1 + 1 + 1, 2, none⟩) (by show _ ≠ w28.heap.size + 1 + 1 + 1; omega) (.slice (some ⟨X2.heap.size, 0, none⟩) 6 6)
  rw [hX3] at N2
  have N3 := N3.far (p := ⟨w28.heap.size + 1 + 1 + 1, 2, none⟩) (by show _ ≠ w28.heap.size + 1 + 1 + 1; omega) (.slice (some ⟨X2.heap.size, 0, none⟩) 6 6)
  rw [hX3] at N3
  have N4 : Box X3 (w28.heap.size + 1 + 1 + 1) 32 #[iv 13, iv 10, .slice (some ⟨X2.heap.size, 0, none⟩) 6 6, .slice (some ⟨h4, 0, none⟩) 3 3] := by rw [← hX3]; simpa using N4.put 2 (.slice (some ⟨X2.heap.size, 0, none⟩) 6 6)
  have N5 := N5.far (p := ⟨w28.heap.size + 1 + 1 + 1, 2, none⟩) (by show _ ≠ w28.heap.size + 1 + 1 + 1; omega) (.slice (some ⟨X2.heap.size, 0, none⟩) 6 6)
  rw [hX3] at N5
  have K1 := K1.far (p := ⟨w28.heap.size + 1 + 1 + 1, 2, none⟩) (by show _ ≠ w28.heap.size + 1 + 1 + 1; omega) (.slice (some ⟨X2.heap.size, 0, none⟩) 6 6)
  rw [hX3] at K1
  have K2 := K2.far (p := ⟨w28.heap.size + 1 + 1 + 1, 2, none⟩) (by show _ ≠ w28.heap.size + 1 + 1 + 1; omega) (.slice (some ⟨X2.heap.size, 0, none⟩) 6 6)
  rw [hX3] at K2
  have K3 := K3.far (p := ⟨w28.heap.size + 1 + 1 + 1, 2, none⟩) (by show _ ≠ w28.heap.size + 1 + 1 + 1; omega) (.slice (some ⟨X2.heap.size, 0, none⟩) 6 6)
  rw [hX3] at K3
  have K4 := K4.far (p := ⟨w28.heap.size + 1 + 1 + 1, 2, none⟩) (by show _ ≠ w28.heap.size + 1 + 1 + 1; omega) (.slice (some ⟨X2.heap.size, 0, none⟩) 6 6)
  rw [hX3] at K4
  have K5 := K5.far (p := ⟨w28.heap.size + 1 + 1 + 1, 2, none⟩) (by show _ ≠ w28.heap.size + 1 + 1 + 1; omega) (.slice (some ⟨X2.heap.size, 0, none⟩) 6 6)
  rw [hX3] at K5
  have D1 := D1.far (p := ⟨w28.heap.size + 1 + 1 + 1, 2, none⟩) (by show _ ≠ w28.heap.size + 1 + 1 + 1; omega) (.slice (some ⟨X2.heap.size, 0, none⟩) 6 6)
  rw [hX3] at D1
  have D2 := D2.far (p := ⟨w28.heap.size + 1 + 1 + 1, 2, none⟩) (by show _ ≠ w28.heap.size + 1 + 1 + 1; omega) (.slice (some ⟨X2.heap.size, 0, none⟩) 6 6)
  rw [hX3] at D2
  have D3 := D3.far (p := ⟨w28.heap.size + 1 + 1 + 1, 2, none⟩) (by show _ ≠ w28.heap.size + 1 + 1 + 1; omega) (.slice (some ⟨X2.heap.size, 0, none⟩) 6 6)
  rw [hX3] at D3
  have D4 := D4.far (p := ⟨w28.heap.size + 1 + 1 + 1, 2, none⟩) (by show _ ≠ w28.heap.size + 1 + 1 + 1; omega) (.slice (some ⟨X2.heap.size, 0, none⟩) 6 6)
  rw [hX3] at D4
  have D5 := D5.far (p := ⟨w28.heap.size + 1 + 1 + 1, 2, none⟩) (by show _ ≠ w28.heap.size + 1 + 1 + 1; omega) (.slice (some ⟨X2.heap.size, 0, none⟩) 6 6)
  rw [hX3] at D5
  have zX3 : X2.heap.size = X3.heap.size := by rw [← hX3]; simp
  have HB := Lib.hid (show Below w0.heap.size w0 X3 from by rw [← hX3]; exact up_put HB.out (by simp; omega) _)
  rw [hX3]
  clear hX3
  obtain ⟨X4, hX4⟩ : ∃ X, X3.alloc (.cells #[iv 0, iv 0, iv 0, iv 0, iv 0, iv 0, iv 0, iv 0, iv 0, iv 0, iv 0, iv 0, iv 0, iv 0, iv 0, iv 0, iv 0, iv 0] 78) = X := ⟨_, rfl⟩
  have M6 : Box X4 X2.heap.size 78 #[iv 0, iv 0, iv 0, iv 0, iv 0, iv 0, iv 0, iv 0, iv 0, iv 0, iv 0, iv 0, iv 0, iv 0, iv 0, iv 0, iv 0, iv 0] := hX4 ▸ Box.new zX3
  have N1 := N1.alloc (.cells #[iv 0, iv 0, iv 0, iv 0, iv 0, iv 0, iv 0, iv 0, iv 0, iv 0, iv 0, iv 0, iv 0, iv 0, iv 0, iv 0, iv 0, iv 0] 78)
  rw [hX4] at N1
  have N2 := N2.alloc (.cells #[iv 0, iv 0, iv 0, iv 0, iv 0, iv 0, iv 0, iv 0, iv 0, iv 0, iv 0, iv 0, iv 0, iv 0, iv 0, iv 0, iv 0, iv 0] 78)
  rw [hX4] at N2
  have N3 := N3.alloc (.cells #[iv 0, iv 0, iv 0, iv 0, iv 0, iv 0, iv 0, iv 0, iv 0, iv 0, iv 0, iv 0, iv 0, iv 0, iv 0, iv 0, iv 0, iv 0] 78)
  rw [hX4] at N3
  have N4 := N4.alloc (.cells #[iv 0, iv 0, iv 0, iv 0, iv 0, iv 0, iv 0, iv 0, iv 0, iv 0, iv 0, iv 0, iv 0, iv 0, iv 0, iv 0, iv 0, iv 0] 78)
  rw [hX4] at N4
  have N5 := N5.alloc (.cells #[iv 0, iv 0, iv 0, iv 0, iv 0, iv 0, iv 0, iv 0, iv 0, iv 0, iv 0, iv 0, iv 0, iv 0, iv 0, iv 0, iv 0, iv 0] 78)
  rw [hX4] at N5
  have K1 := K1.alloc (.cells #[iv 0, iv 0, iv 0, iv 0, iv 0, iv 0, iv 0, iv 0, iv 0, iv 0, iv 0, iv 0, iv 0, iv 0, iv 0, iv 0, iv 0, iv 0] 78)
  rw [hX4] at K1
  have K2 := K2.alloc (.cells #[iv 0, iv 0, iv 0, iv 0, iv 0, iv 0, iv 0, iv 0, iv 0, iv 0, iv 0, iv 0, iv 0, iv 0, iv 0, iv 0, iv 0, iv 0] 78)
  rw [hX4] at K2
  have K3 := K3.alloc (.cells #[iv 0, iv 0, iv 0, iv 0, iv 0, iv 0, iv 0, iv 0, iv 0, iv 0, iv 0, iv 0, iv 0, iv 0, iv 0, iv 0, iv 0, iv 0] 78)
  rw [hX4] at K3
  have K4 := K4.alloc (.cells #[iv 0, iv 0, iv 0, iv 0, iv 0, iv 0, iv 0, iv 0, iv 0, iv 0, iv 0, iv 0, iv 0, iv 0, iv 0, iv 0, iv 0, iv 0] 78)
  rw [hX4] at K4
  have K5 := K5.alloc (.cells #[iv 0, iv 0, iv 0, iv 0, iv 0, iv 0, iv 0, iv 0, iv 0, iv 0, iv 0, iv 0, iv 0, iv 0, iv 0, iv 0, iv 0, iv 0] 78)
  rw [hX4] at K5
  have D1 := D1.alloc (.cells #[iv 0, iv 0, iv 0, iv 0, iv 0, iv 0, iv 0, iv 0, iv 0, iv 0, iv 0, iv 0, iv 0, iv 0, iv 0, iv 0, iv 0, iv 0] 78)
  rw [hX4] at D1
  have D2 := D2.alloc (.cells #[iv 0, iv 0, iv 0, iv 0, iv 0, iv 0, iv 0, iv 0, iv 0, iv 0, iv 0, iv 0, iv 0, iv 0, iv 0, iv 0, iv 0, iv 0] 78)
  rw [hX4] at D2
  have D3 := D3.alloc (.cells #[iv 0, iv 0, iv 0, iv 0, iv 0, iv 0, iv 0, iv 0, iv 0, iv 0, iv 0, iv 0, iv 0, iv 0, iv 0, iv 0, iv 0, iv 0] 78)
  rw [hX4] at D3
  have D4 := D4.alloc (.cells #[iv 0, iv 0, iv 0, iv 0, iv 0, iv 0, iv 0, iv 0, iv 0, iv 0, iv 0, iv 0, iv 0, iv 0, iv 0, iv 0, iv 0, iv 0] 78)
  rw [hX4] at D4
  have D5 := D5.alloc (.cells #[iv 0, iv 0, iv 0, iv 0, iv 0, iv 0, iv 0, iv 0, iv 0, iv 0, iv 0, iv 0, iv 0, iv 0, iv 0, iv 0, iv 0, iv 0] 78)
  rw [hX4] at D5
  have HB := Lib.hid (show Below w0.heap.size w0 X4 from hX4 ▸ up_alloc HB.out _)
  rw [hX4]
  clear hX4
  have m6 := D5.lt
  have m7 := M6.lt
  have m8 : h5 < X2.heap.size := by omega
  have cN5 := fun i => N5.cell i
  have fN5 := fun i => N5.free i
  have lN5 := N5.lt
  have cD5 := fun i => D5.cell i
  have fD5 := fun i => D5.free i
  have lD5 := D5.lt
  go_upto_region 14 with fail
  clear cN5 fN5 lN5 cD5 fD5 lD5
  obtain ⟨X5, hX5⟩ : ∃ X, X4.setCell ⟨h5, 0, none⟩ (iv 2) = X := ⟨_, rfl⟩
  have N1 := N1.far (p := ⟨h5, 0, none⟩) (by show _ ≠ h5; omega) (iv 2)
  rw [hX5] at N1
  have N2 := N2.far (p := ⟨h5, 0, none⟩) (by show _ ≠ h5; omega) (iv 2)
  rw [hX5] at N2
  have N3 := N3.far (p := ⟨h5, 0, none⟩) (by show _ ≠ h5; omega) (iv 2)
  rw [hX5] at N3
  have N4 := N4.far (p := ⟨h5, 0, none⟩) (by show _ ≠ h5; omega) (iv 2)
  rw [hX5] at N4
  have N5 := N5.far (p := ⟨h5, 0, none⟩) (by show _ ≠ h5; omega) (iv 2)
  rw [hX5] at N5
  have K1 := K1.far (p := ⟨h5, 0, none⟩) (by show _ ≠ h5; omega) (iv 2)
  rw [hX5] at K1
  have K2 := K2.far (p := ⟨h5, 0, none⟩) (by show _ ≠ h5; omega) (iv 2)
  rw [hX5] at K2
  have K3 := K3.far (p := ⟨h5, 0, none⟩) (by show _ ≠ h5; omega) (iv 2)
  rw [hX5] at K3
  have K4 := K4.far (p := ⟨h5, 0, none⟩) (by show _ ≠ h5; omega) (iv 2)
  rw [hX5] at K4
  have K5 := K5.far (p := ⟨h5, 0, none⟩) (by show _ ≠ h5; omega) (iv 2)
  rw [hX5] at K5
  have D1 := D1.far (p := ⟨h5, 0, none⟩) (by show _ ≠ h5; omega) (iv 2)
  rw [hX5] at D1
  have D2 := D2.far (p := ⟨h5, 0, none⟩) (by show _ ≠ h5; omega) (iv 2)
  rw [hX5] at D2
  have D3 := D3.far (p := ⟨h5, 0, none⟩) (by show _ ≠ h5; omega) (iv 2)
  rw [hX5] at D3
  have D4 := D4.far (p := ⟨h5, 0, none⟩) (by show _ ≠ h5; omega) (iv 2)
  rw [hX5] at D4
  have D5 : Box X5 (h5) 3 #[iv 2, iv 0, iv 1] := by rw [← hX5]; simpa using D5.put 0 (iv 2)
  have M6 := M6.far (p := ⟨h5, 0, none⟩) (by show _ ≠ h5; omega) (iv 2)
  rw [hX5] at M6
  have zX5 : X4.heap.size = X5.heap.size := by rw [← hX5]; simp
  have HB := Lib.hid (show Below w0.heap.size w0 X5 from by rw [← hX5]; exact up_put HB.out (by simp; omega) _)
  rw [hX5]
  clear hX5
  have Q1 := Lib.hid (show BookAt X5 (.slice (some ⟨g1, 0, none⟩) 2 2) (.slice (some ⟨h1, 0, none⟩) 3 3) ⟨15, 10, [⟨2, 3, 1⟩, ⟨5, 0, 0⟩], [0, 0, 1]⟩ from ⟨keys0 K1, ints_box (l := [0, 0, 1]) D1 (by decide)⟩)
  have NN1 := Lib.hid N1
  have Q2 := Lib.hid (show BookAt X5 (.slice (some ⟨g2, 0, none⟩) 2 2) (.slice (some ⟨h2, 0, none⟩) 3 3) ⟨13, 14, [⟨2, 3, 1⟩, ⟨5, 0, 0⟩], [0, 0, 1]⟩ from ⟨keys0 K2, ints_box (l := [0, 0, 1]) D2 (by decide)⟩)
  have NN2 := Lib.hid N2
  have Q3 := Lib.hid (show BookAt X5 (.slice (some ⟨g3, 0, none⟩) 2 2) (.slice (some ⟨h3, 0, none⟩) 3 3) ⟨13, 10, [⟨0, 3, 1⟩, ⟨5, 0, 0⟩], [0, 0, 1]⟩ from ⟨rows_box (cells := Ky.cells) (l := [⟨0, 3, 1⟩, ⟨5, 0, 0⟩]) K3 rfl (by decide) (fun _ => rfl) rfl rfl, ints_box (l := [0, 0, 1]) D3 (by decide)⟩)
  have NN3 := Lib.hid N3
  have Q4 := Lib.hid (show BookAt X5 (.slice (some ⟨X2.heap.size, 0, none⟩) 6 6) (.slice (some ⟨h4, 0, none⟩) 3 3) ⟨13, 10, [⟨0, 0, 0⟩, ⟨0, 0, 0⟩, ⟨0, 0, 0⟩, ⟨0, 0, 0⟩, ⟨0, 0, 0⟩, ⟨0, 0, 0⟩], [0, 0, 1]⟩ from ⟨rows_box (cells := Ky.cells) (l := [⟨0, 0, 0⟩, ⟨0, 0, 0⟩, ⟨0, 0, 0⟩, ⟨0, 0, 0⟩, ⟨0, 0, 0⟩, ⟨0, 0, 0⟩]) M6 rfl (by decide) (fun _ => rfl) rfl rfl, ints_box (l := [0, 0, 1]) D4 (by decide)⟩)
  have NN4 := Lib.hid N4
  have Q5 := Lib.hid (show BookAt X5 (.slice (some ⟨g5, 0, none⟩) 2 2) (.slice (some ⟨h5, 0, none⟩) 3 3) ⟨13, 10, [⟨2, 3, 1⟩, ⟨5, 0, 0⟩], [2, 0, 1]⟩ from ⟨keys0 K5, ints_box (l := [2, 0, 1]) D5 (by decide)⟩)
  have NN5 := Lib.hid N5
  clear N1 N2 N3 N4 N5 K1 K2 K3 K4 K5 D1 D2 D3 D4 D5 M6 zX2 zX3 zX5
  go_wp2_with fail
  refine (book0_any _).mono ?_
  rintro e w29 ⟨v1, v2, rfl, hq, hb⟩
  have HQ := Lib.hid hq
  clear hq
  have HB := Lib.hid (up_later HB.out hb)
  have Q1 := Lib.hid (Q1.out.kept hb)
  have Q2 := Lib.hid (Q2.out.kept hb)
  have Q3 := Lib.hid (Q3.out.kept hb)
  have Q4 := Lib.hid (Q4.out.kept hb)
  have Q5 := Lib.hid (Q5.out.kept hb)
  have NN1 := Lib.hid (NN1.out.kept hb)
  have NN2 := Lib.hid (NN2.out.kept hb)
  have NN3 := Lib.hid (NN3.out.kept hb)
  have NN4 := Lib.hid (NN4.out.kept hb)
  have NN5 := Lib.hid (NN5.out.kept hb)
  clear hb
  unfold bookV
  go_wp2_with fail
  refine (Decode_any _ _ _ bk0 1 [0, 11, 0, 0, 9] _ (HQ.out.kept (up_alloc up0 _)) (ints_box (l := [0, 11, 0, 0, 9]) (Box.new rfl) (by decide))).mono ?_
  rintro e w30 ⟨p1, p2, rfl, hq1, hq2, hb⟩
  rw [nmH]
  have hb := up_later (up_alloc (up0 (w := w29)) (.cells #[iv 0, iv 11, iv 0, iv 0, iv 9] 3)) hb
  clear hq1 hq2 HQ
  have HB := Lib.hid (up_later HB.out hb)
  have Q1 := Lib.hid (Q1.out.kept hb)
  have Q2 := Lib.hid (Q2.out.kept hb)
  have Q3 := Lib.hid (Q3.out.kept hb)
  have Q4 := Lib.hid (Q4.out.kept hb)
  have Q5 := Lib.hid (Q5.out.kept hb)
  have NN1 := Lib.hid (NN1.out.kept hb)
  have NN2 := Lib.hid (NN2.out.kept hb)
  have NN3 := Lib.hid (NN3.out.kept hb)
  have NN4 := Lib.hid (NN4.out.kept hb)
  have NN5 := Lib.hid (NN5.out.kept hb)
  clear hb
  go_wp2_with fail
  refine (book0_any _).mono ?_
  rintro e w31 ⟨v1, v2, rfl, hq, hb⟩
  have HQ := Lib.hid hq
  clear hq
  have HB := Lib.hid (up_later HB.out hb)
  have Q1 := Lib.hid (Q1.out.kept hb)
  have Q2 := Lib.hid (Q2.out.kept hb)
  have Q3 := Lib.hid (Q3.out.kept hb)
  have Q4 := Lib.hid (Q4.out.kept hb)
  have Q5 := Lib.hid (Q5.out.kept hb)
  have NN1 := Lib.hid (NN1.out.kept hb)
  have NN2 := Lib.hid (NN2.out.kept hb)
  have NN3 := Lib.hid (NN3.out.kept hb)
  have NN4 := Lib.hid (NN4.out.kept hb)
  have NN5 := Lib.hid (NN5.out.kept hb)
  clear hb
  unfold bookV
  go_wp2_with fail
  refine (Decode_any _ _ _ bk0 0 [0, 11, 0, 1, 9] _ (HQ.out.kept (up_alloc up0 _)) (ints_box (l := [0, 11, 0, 1, 9]) (Box.new rfl) (by decide))).mono ?_
  rintro e w32 ⟨p1, p2, rfl, hq1, hq2, hb⟩
  rw [nmI]
  have hb := up_later (up_alloc (up0 (w := w31)) (.cells #[iv 0, iv 11, iv 0, iv 1, iv 9] 3)) hb
  clear hq1 hq2 HQ
  have HB := Lib.hid (up_later HB.out hb)
  have Q1 := Lib.hid (Q1.out.kept hb)
  have Q2 := Lib.hid (Q2.out.kept hb)
  have Q3 := Lib.hid (Q3.out.kept hb)
  have Q4 := Lib.hid (Q4.out.kept hb)
  have Q5 := Lib.hid (Q5.out.kept hb)
  have NN1 := Lib.hid (NN1.out.kept hb)
  have NN2 := Lib.hid (NN2.out.kept hb)
  have NN3 := Lib.hid (NN3.out.kept hb)
  have NN4 := Lib.hid (NN4.out.kept hb)
  have NN5 := Lib.hid (NN5.out.kept hb)
  clear hb
  go_wp2_with fail
  refine (book0_any _).mono ?_
  rintro e w33 ⟨v1, v2, rfl, hq, hb⟩
  have HQ := Lib.hid hq
  clear hq
  have HB := Lib.hid (up_later HB.out hb)
  have Q1 := Lib.hid (Q1.out.kept hb)
  have Q2 := Lib.hid (Q2.out.kept hb)
  have Q3 := Lib.hid (Q3.out.kept hb)
  have Q4 := Lib.hid (Q4.out.kept hb)
  have Q5 := Lib.hid (Q5.out.kept hb)
  have NN1 := Lib.hid (NN1.out.kept hb)
  have NN2 := Lib.hid (NN2.out.kept hb)
  have NN3 := Lib.hid (NN3.out.kept hb)
  have NN4 := Lib.hid (NN4.out.kept hb)
  have NN5 := Lib.hid (NN5.out.kept hb)
  clear hb
  unfold bookV
  go_wp2_with fail
  refine (Decode_any _ _ _ bk0 0 [0] _ (HQ.out.kept (up_alloc up0 _)) (ints_box (l := [0]) (Box.new rfl) (by decide))).mono ?_
  rintro e w34 ⟨p1, p2, rfl, hq1, hq2, hb⟩
  rw [nmJ]
  have hb := up_later (up_alloc (up0 (w := w33)) (.cells #[iv 0] 3)) hb
  clear hq1 hq2 HQ
  have HB := Lib.hid (up_later HB.out hb)
  have Q1 := Lib.hid (Q1.out.kept hb)
  have Q2 := Lib.hid (Q2.out.kept hb)
  have Q3 := Lib.hid (Q3.out.kept hb)
  have Q4 := Lib.hid (Q4.out.kept hb)
  have Q5 := Lib.hid (Q5.out.kept hb)
  have NN1 := Lib.hid (NN1.out.kept hb)
  have NN2 := Lib.hid (NN2.out.kept hb)
  have NN3 := Lib.hid (NN3.out.kept hb)
  have NN4 := Lib.hid (NN4.out.kept hb)
  have NN5 := Lib.hid (NN5.out.kept hb)
  clear hb
  go_wp2_with fail
  refine (book0_any _).mono ?_
  rintro e w35 ⟨v1, v2, rfl, hq, hb⟩
  have HQ := Lib.hid hq
  clear hq
  have HB := Lib.hid (up_later HB.out hb)
  have Q1 := Lib.hid (Q1.out.kept hb)
  have Q2 := Lib.hid (Q2.out.kept hb)
  have Q3 := Lib.hid (Q3.out.kept hb)
  have Q4 := Lib.hid (Q4.out.kept hb)
  have Q5 := Lib.hid (Q5.out.kept hb)
  have NN1 := Lib.hid (NN1.out.kept hb)
  have NN2 := Lib.hid (NN2.out.kept hb)
  have NN3 := Lib.hid (NN3.out.kept hb)
  have NN4 := Lib.hid (NN4.out.kept hb)
  have NN5 := Lib.hid (NN5.out.kept hb)
  clear hb
  unfold bookV
  go_wp2_with fail
  refine (Code_any _ _ _ bk0 3 [] _ HQ.out (RowsAt.nil _)).mono ?_
  rintro e w36 ⟨p1, rfl, hq, hb⟩
  rw [nmK]
  clear hq HQ
  have HB := Lib.hid (up_later HB.out hb)
  have Q1 := Lib.hid (Q1.out.kept hb)
  have Q2 := Lib.hid (Q2.out.kept hb)
  have Q3 := Lib.hid (Q3.out.kept hb)
  have Q4 := Lib.hid (Q4.out.kept hb)
  have Q5 := Lib.hid (Q5.out.kept hb)
  have NN1 := Lib.hid (NN1.out.kept hb)
  have NN2 := Lib.hid (NN2.out.kept hb)
  have NN3 := Lib.hid (NN3.out.kept hb)
  have NN4 := Lib.hid (NN4.out.kept hb)
  have NN5 := Lib.hid (NN5.out.kept hb)
  clear hb
  go_wp2_with fail
  have hm : ∀ w, (Instr.makeSlice 23 (.int .i64 11) (.int .i64 11)).run Try.prog w = .ok (.slice (some ⟨w.heap.size, 0, none⟩) 11 11) (w.alloc (.cells #[iv 0, iv 0, iv 0, iv 0, iv 0, iv 0, iv 0, iv 0, iv 0, iv 0, iv 0] 3)) := fun w => by kernel_rfl
  apply wp_region_by 8 [(Fact.bk), (Fact.sl 11 3 #[iv 0, iv 0, iv 0, iv 0, iv 0, iv 0, iv 0, iv 0, iv 0, iv 0, iv 0]), (Fact.er 3), (Fact.er 3), (Fact.tr), (Fact.eq _), (Fact.tr), (Fact.eq _)]
  case hm => kernel_rfl
  case hB => kernel_rfl
  case hA => (intro vs; simp only [List.take_succ_cons, List.take_zero, putAll, if_true, Act.put, List.setIfInBounds_toArray, List.set_cons_zero, List.set_cons_succ]; exact rfl)
  case hstep =>
    intro vs
    refine And.intro (fun w hw hd => ?_) ?_
    · refine ite_yes rfl ?_
      simp only [Gives]
      go_simp
      refine (book0_any w).mono ?_
      rintro e w7 ⟨u1, u2, rfl, hq, hb⟩
      exact ⟨_, rfl, hb, ⟨u1, u2, rfl, hq⟩, fun h => by cases h⟩
    refine And.intro (fun w hw hd => ?_) ?_
    · refine ite_yes rfl ?_
      simp only [Gives]
      go_simp
      exact ⟨(Below.refl _ _).alloc (Nat.le_refl _) _, ⟨_, rfl, Box.new rfl⟩, fun h => by cases h⟩
    refine And.intro (fun w hw hd => ?_) ?_
    · have d0 := hd 0 (by decide) rfl
      obtain ⟨u1, u2, d0, q0⟩ := d0
      have d1 := hd 1 (by decide) rfl
      obtain ⟨m1, d1, M1⟩ := d1
      refine ite_yes rfl ?_
      simp only [Gives]
      go_simp
      refine (Code_any _ _ _ bk0 0 [0, 0, 0, 0, 0, 0, 0, 0, 0, 0, 0] w q0 (ints_box (l := [0, 0, 0, 0, 0, 0, 0, 0, 0, 0, 0]) M1 (by decide))).mono ?_
      rintro e w7 ⟨c, rfl, hq, hb⟩
      rw [nmL]
      exact ⟨_, rfl, hb, ⟨_, rfl⟩, fun h => by cases h⟩
    refine And.intro (fun w hw hd => ?_) ?_
    · have d2 := hd 2 (by decide) rfl
      obtain ⟨k2, d2⟩ := d2
      refine ite_yes rfl ?_
      simp only [Gives]
      go_simp
      exact ⟨Below.refl _ _, ⟨_, rfl⟩, fun h => by cases h⟩
    refine And.intro (fun w hw hd => ?_) ?_
    · have d3 := hd 3 (by decide) rfl
      obtain ⟨k3, d3⟩ := d3
      refine ite_yes rfl ?_
      simp only [Gives]
      go_simp
      exact ⟨Below.refl _ _, trivial, fun h => by cases h⟩
    refine And.intro (fun w hw hd => ?_) ?_
    · have d3 := hd 3 (by decide) rfl
      obtain ⟨k3, d3⟩ := d3
      refine ite_yes rfl ?_
      simp only [Gives]
      go_simp
      exact ⟨Below.refl _ _, rfl, fun h => by cases h⟩
    refine And.intro (fun w hw hd => ?_) ?_
    · have d4 := hd 4 (by decide) rfl
      refine ite_yes rfl ?_
      simp only [Gives]
      go_simp
      exact ⟨Below.refl _ _, trivial, fun h => by cases h⟩
    refine And.intro (fun w hw hd => ?_) ?_
    · have d5 := hd 5 (by decide) rfl
      change vs 5 = _ at d5
      refine ite_yes rfl ?_
      simp only [Gives]
      go_simp
      exact ⟨Below.refl _ _, rfl, fun h => by cases h⟩
    exact trivial
  intro vs wt hw hd hne hlo
  have d0 := hd 0 (by decide)
  obtain ⟨u1, u2, d0, q0⟩ := d0
  have d1 := hd 1 (by decide)
  obtain ⟨m1, d1, M1⟩ := d1
  have d2 := hd 2 (by decide)
  obtain ⟨k2, d2⟩ := d2
  have d3 := hd 3 (by decide)
  obtain ⟨k3, d3⟩ := d3
  have d4 := hd 4 (by decide)
  skip
  have d5 := hd 5 (by decide)
  change vs 5 = _ at d5
  have d6 := hd 6 (by decide)
  skip
  have d7 := hd 7 (by decide)
  change vs 7 = _ at d7
  simp only [d5, d7, List.drop_succ_cons, List.drop_nil]
  clear hd hne hlo d5 d7
  clear hm
  clear d0 q0 d1 M1 d2 d3 d4 d6
  have hb := hw
  clear hw
  have HB := Lib.hid (up_later HB.out hb)
  have Q1 := Lib.hid (Q1.out.kept hb)
  have Q2 := Lib.hid (Q2.out.kept hb)
  have Q3 := Lib.hid (Q3.out.kept hb)
  have Q4 := Lib.hid (Q4.out.kept hb)
  have Q5 := Lib.hid (Q5.out.kept hb)
  have NN1 := Lib.hid (NN1.out.kept hb)
  have NN2 := Lib.hid (NN2.out.kept hb)
  have NN3 := Lib.hid (NN3.out.kept hb)
  have NN4 := Lib.hid (NN4.out.kept hb)
  have NN5 := Lib.hid (NN5.out.kept hb)
  clear hb
  go_wp2_with fail
  refine (book0_any _).mono ?_
  rintro e w38 ⟨v1, v2, rfl, hq, hb⟩
  have HQ := Lib.hid hq
  clear hq
  have HB := Lib.hid (up_later HB.out hb)
  have Q1 := Lib.hid (Q1.out.kept hb)
  have Q2 := Lib.hid (Q2.out.kept hb)
  have Q3 := Lib.hid (Q3.out.kept hb)
  have Q4 := Lib.hid (Q4.out.kept hb)
  have Q5 := Lib.hid (Q5.out.kept hb)
  have NN1 := Lib.hid (NN1.out.kept hb)
  have NN2 := Lib.hid (NN2.out.kept hb)
  have NN3 := Lib.hid (NN3.out.kept hb)
  have NN4 := Lib.hid (NN4.out.kept hb)
  have NN5 := Lib.hid (NN5.out.kept hb)
  clear hb
  unfold bookV
  go_wp2_with fail
  refine (Code_any _ _ _ bk0 0 [13] _ (HQ.out.kept (up_alloc up0 _)) (ints_box (l := [13]) (Box.new rfl) (by decide))).mono ?_
  rintro e w39 ⟨p1, rfl, hq, hb⟩
  rw [nmM]
  have hb := up_later (up_alloc (up0 (w := w38)) (.cells #[iv 13] 3)) hb
  clear hq HQ
  have HB := Lib.hid (up_later HB.out hb)
  have Q1 := Lib.hid (Q1.out.kept hb)
  have Q2 := Lib.hid (Q2.out.kept hb)
  have Q3 := Lib.hid (Q3.out.kept hb)
  have Q4 := Lib.hid (Q4.out.kept hb)
  have Q5 := Lib.hid (Q5.out.kept hb)
  have NN1 := Lib.hid (NN1.out.kept hb)
  have NN2 := Lib.hid (NN2.out.kept hb)
  have NN3 := Lib.hid (NN3.out.kept hb)
  have NN4 := Lib.hid (NN4.out.kept hb)
  have NN5 := Lib.hid (NN5.out.kept hb)
  clear hb
  go_wp2_with fail
  refine (book0_any _).mono ?_
  rintro e w40 ⟨v1, v2, rfl, hq, hb⟩
  have HQ := Lib.hid hq
  clear hq
  have HB := Lib.hid (up_later HB.out hb)
  have Q1 := Lib.hid (Q1.out.kept hb)
  have Q2 := Lib.hid (Q2.out.kept hb)
  have Q3 := Lib.hid (Q3.out.kept hb)
  have Q4 := Lib.hid (Q4.out.kept hb)
  have Q5 := Lib.hid (Q5.out.kept hb)
  have NN1 := Lib.hid (NN1.out.kept hb)
  have NN2 := Lib.hid (NN2.out.kept hb)
  have NN3 := Lib.hid (NN3.out.kept hb)
  have NN4 := Lib.hid (NN4.out.kept hb)
  have NN5 := Lib.hid (NN5.out.kept hb)
  clear hb
  unfold bookV
  go_wp2_with fail
  refine (early0_any _).mono ?_
  rintro e w41 ⟨v3, rfl, hq, hb⟩
  have HE := Lib.hid hq
  clear hq
  have HB := Lib.hid (up_later HB.out hb)
  have Q1 := Lib.hid (Q1.out.kept hb)
  have Q2 := Lib.hid (Q2.out.kept hb)
  have Q3 := Lib.hid (Q3.out.kept hb)
  have Q4 := Lib.hid (Q4.out.kept hb)
  have Q5 := Lib.hid (Q5.out.kept hb)
  have NN1 := Lib.hid (NN1.out.kept hb)
  have NN2 := Lib.hid (NN2.out.kept hb)
  have NN3 := Lib.hid (NN3.out.kept hb)
  have NN4 := Lib.hid (NN4.out.kept hb)
  have NN5 := Lib.hid (NN5.out.kept hb)
  have HQ := Lib.hid (HQ.out.kept hb)
  clear hb
  go_wp2_with fail
  refine (Plan_any _ _ _ bk0 [⟨0, 1⟩] 1 _ HQ.out HE.out).mono ?_
  rintro e w42 ⟨p1, rfl, hq, hb⟩
  rw [nmN]
  clear hq HQ HE
  have HB := Lib.hid (up_later HB.out hb)
  have Q1 := Lib.hid (Q1.out.kept hb)
  have Q2 := Lib.hid (Q2.out.kept hb)
  have Q3 := Lib.hid (Q3.out.kept hb)
  have Q4 := Lib.hid (Q4.out.kept hb)
  have Q5 := Lib.hid (Q5.out.kept hb)
  have NN1 := Lib.hid (NN1.out.kept hb)
  have NN2 := Lib.hid (NN2.out.kept hb)
  have NN3 := Lib.hid (NN3.out.kept hb)
  have NN4 := Lib.hid (NN4.out.kept hb)
  have NN5 := Lib.hid (NN5.out.kept hb)
  clear hb
  go_wp2_with fail
  refine (book0_any _).mono ?_
  rintro e w43 ⟨v1, v2, rfl, hq, hb⟩
  have HQ := Lib.hid hq
  clear hq
  have HB := Lib.hid (up_later HB.out hb)
  have Q1 := Lib.hid (Q1.out.kept hb)
  have Q2 := Lib.hid (Q2.out.kept hb)
  have Q3 := Lib.hid (Q3.out.kept hb)
  have Q4 := Lib.hid (Q4.out.kept hb)
  have Q5 := Lib.hid (Q5.out.kept hb)
  have NN1 := Lib.hid (NN1.out.kept hb)
  have NN2 := Lib.hid (NN2.out.kept hb)
  have NN3 := Lib.hid (NN3.out.kept hb)
  have NN4 := Lib.hid (NN4.out.kept hb)
  have NN5 := Lib.hid (NN5.out.kept hb)
  clear hb
  unfold bookV
  go_wp2_with fail
  refine (early0_any _).mono ?_
  rintro e w44 ⟨v3, rfl, hq, hb⟩
  have HE := Lib.hid hq
  clear hq
  have HB := Lib.hid (up_later HB.out hb)
  have Q1 := Lib.hid (Q1.out.kept hb)
  have Q2 := Lib.hid (Q2.out.kept hb)
  have Q3 := Lib.hid (Q3.out.kept hb)
  have Q4 := Lib.hid (Q4.out.kept hb)
  have Q5 := Lib.hid (Q5.out.kept hb)
  have NN1 := Lib.hid (NN1.out.kept hb)
  have NN2 := Lib.hid (NN2.out.kept hb)
  have NN3 := Lib.hid (NN3.out.kept hb)
  have NN4 := Lib.hid (NN4.out.kept hb)
  have NN5 := Lib.hid (NN5.out.kept hb)
  have HQ := Lib.hid (HQ.out.kept hb)
  clear hb
  go_wp2_with fail
  refine (Plan_any _ _ _ bk0 [⟨0, 1⟩] 9 _ HQ.out HE.out).mono ?_
  rintro e w45 ⟨p1, rfl, hq, hb⟩
  rw [nmO]
  clear hq HQ HE
  have HB := Lib.hid (up_later HB.out hb)
  have Q1 := Lib.hid (Q1.out.kept hb)
  have Q2 := Lib.hid (Q2.out.kept hb)
  have Q3 := Lib.hid (Q3.out.kept hb)
  have Q4 := Lib.hid (Q4.out.kept hb)
  have Q5 := Lib.hid (Q5.out.kept hb)
  have NN1 := Lib.hid (NN1.out.kept hb)
  have NN2 := Lib.hid (NN2.out.kept hb)
  have NN3 := Lib.hid (NN3.out.kept hb)
  have NN4 := Lib.hid (NN4.out.kept hb)
  have NN5 := Lib.hid (NN5.out.kept hb)
  clear hb
  go_wp2_with fail
  have hm : ∀ w, (Instr.makeSlice 49 (.int .i64 7) (.int .i64 7)).run Try.prog w = .ok (.slice (some ⟨w.heap.size, 0, none⟩) 7 7) (w.alloc (.cells #[iv 0, iv 0, iv 0, iv 0, iv 0, iv 0, iv 0, iv 0, iv 0, iv 0, iv 0, iv 0, iv 0, iv 0] 109)) := fun w => by kernel_rfl
  apply wp_region_by 8 [(Fact.bk), (Fact.sl 7 109 #[iv 0, iv 0, iv 0, iv 0, iv 0, iv 0, iv 0, iv 0, iv 0, iv 0, iv 0, iv 0, iv 0, iv 0]), (Fact.er 3), (Fact.er 3), (Fact.tr), (Fact.eq _), (Fact.tr), (Fact.eq _)]
  case hm => kernel_rfl
  case hB => kernel_rfl
  case hA => (intro vs; simp only [List.take_succ_cons, List.take_zero, putAll, if_true, Act.put, List.setIfInBounds_toArray, List.set_cons_zero, List.set_cons_succ]; exact rfl)
  case hstep =>
    intro vs
    refine And.intro (fun w hw hd => ?_) ?_
    · refine ite_yes rfl ?_
      simp only [Gives]
      go_simp
      refine (book0_any w).mono ?_
      rintro e w7 ⟨u1, u2, rfl, hq, hb⟩
      exact ⟨_, rfl, hb, ⟨u1, u2, rfl, hq⟩, fun h => by cases h⟩
    refine And.intro (fun w hw hd => ?_) ?_
    · refine ite_yes rfl ?_
      simp only [Gives]
      go_simp
      exact ⟨(Below.refl _ _).alloc (Nat.le_refl _) _, ⟨_, rfl, Box.new rfl⟩, fun h => by cases h⟩
    refine And.intro (fun w hw hd => ?_) ?_
    · have d0 := hd 0 (by decide) rfl
      obtain ⟨u1, u2, d0, q0⟩ := d0
      have d1 := hd 1 (by decide) rfl
      obtain ⟨m1, d1, M1⟩ := d1
      refine ite_yes rfl ?_
      simp only [Gives]
      go_simp
      refine (Exposed_any _ _ _ bk0 [⟨0, 0⟩, ⟨0, 0⟩, ⟨0, 0⟩, ⟨0, 0⟩, ⟨0, 0⟩, ⟨0, 0⟩, ⟨0, 0⟩] w q0 (rows_box (cells := Ls.cells) (l := [⟨0, 0⟩, ⟨0, 0⟩, ⟨0, 0⟩, ⟨0, 0⟩, ⟨0, 0⟩, ⟨0, 0⟩, ⟨0, 0⟩]) M1 rfl (by decide) (fun _ => rfl) rfl rfl)).mono ?_
      rintro e w7 ⟨x, rfl, hq, hb⟩
      rw [nmP]
      exact ⟨_, rfl, hb, ⟨_, rfl⟩, fun h => by cases h⟩
    refine And.intro (fun w hw hd => ?_) ?_
    · have d2 := hd 2 (by decide) rfl
      obtain ⟨k2, d2⟩ := d2
      refine ite_yes rfl ?_
      simp only [Gives]
      go_simp
      exact ⟨Below.refl _ _, ⟨_, rfl⟩, fun h => by cases h⟩
    refine And.intro (fun w hw hd => ?_) ?_
    · have d3 := hd 3 (by decide) rfl
      obtain ⟨k3, d3⟩ := d3
      refine ite_yes rfl ?_
      simp only [Gives]
      go_simp
      exact ⟨Below.refl _ _, trivial, fun h => by cases h⟩
    refine And.intro (fun w hw hd => ?_) ?_
    · have d3 := hd 3 (by decide) rfl
      obtain ⟨k3, d3⟩ := d3
      refine ite_yes rfl ?_
      simp only [Gives]
      go_simp
      exact ⟨Below.refl _ _, rfl, fun h => by cases h⟩
    refine And.intro (fun w hw hd => ?_) ?_
    · have d4 := hd 4 (by decide) rfl
      refine ite_yes rfl ?_
      simp only [Gives]
      go_simp
      exact ⟨Below.refl _ _, trivial, fun h => by cases h⟩
    refine And.intro (fun w hw hd => ?_) ?_
    · have d5 := hd 5 (by decide) rfl
      change vs 5 = _ at d5
      refine ite_yes rfl ?_
      simp only [Gives]
      go_simp
      exact ⟨Below.refl _ _, rfl, fun h => by cases h⟩
    exact trivial
  intro vs wt hw hd hne hlo
  have d0 := hd 0 (by decide)
  obtain ⟨u1, u2, d0, q0⟩ := d0
  have d1 := hd 1 (by decide)
  obtain ⟨m1, d1, M1⟩ := d1
  have d2 := hd 2 (by decide)
  obtain ⟨k2, d2⟩ := d2
  have d3 := hd 3 (by decide)
  obtain ⟨k3, d3⟩ := d3
  have d4 := hd 4 (by decide)
  skip
  have d5 := hd 5 (by decide)
  change vs 5 = _ at d5
  have d6 := hd 6 (by decide)
  skip
  have d7 := hd 7 (by decide)
  change vs 7 = _ at d7
  simp only [d5, d7, List.drop_succ_cons, List.drop_nil]
  clear hd hne hlo d5 d7
  clear hm
  clear d0 q0 d1 M1 d2 d3 d4 d6
  have hb := hw
  clear hw
  have HB := Lib.hid (up_later HB.out hb)
  have Q1 := Lib.hid (Q1.out.kept hb)
  have Q2 := Lib.hid (Q2.out.kept hb)
  have Q3 := Lib.hid (Q3.out.kept hb)
  have Q4 := Lib.hid (Q4.out.kept hb)
  have Q5 := Lib.hid (Q5.out.kept hb)
  have NN1 := Lib.hid (NN1.out.kept hb)
  have NN2 := Lib.hid (NN2.out.kept hb)
  have NN3 := Lib.hid (NN3.out.kept hb)
  have NN4 := Lib.hid (NN4.out.kept hb)
  have NN5 := Lib.hid (NN5.out.kept hb)
  clear hb
  go_wp2_with fail
  refine (book0_any _).mono ?_
  rintro e w47 ⟨v1, v2, rfl, hq, hb⟩
  have HQ := Lib.hid hq
  clear hq
  have HB := Lib.hid (up_later HB.out hb)
  have Q1 := Lib.hid (Q1.out.kept hb)
  have Q2 := Lib.hid (Q2.out.kept hb)
  have Q3 := Lib.hid (Q3.out.kept hb)
  have Q4 := Lib.hid (Q4.out.kept hb)
  have Q5 := Lib.hid (Q5.out.kept hb)
  have NN1 := Lib.hid (NN1.out.kept hb)
  have NN2 := Lib.hid (NN2.out.kept hb)
  have NN3 := Lib.hid (NN3.out.kept hb)
  have NN4 := Lib.hid (NN4.out.kept hb)
  have NN5 := Lib.hid (NN5.out.kept hb)
  clear hb
  unfold bookV
  go_wp2_with fail
  refine (Fits_any _ _ _ _ bk0 [11, 12] [⟨0, 4⟩, ⟨0, 5⟩] _ (HQ.out.kept (up_alloc (up_alloc up0 _) _)) ((ints_box (l := [11, 12]) (Box.new rfl) (by decide)).kept (up_alloc up0 _)) (rows_box (cells := Gs.cells) (l := [⟨0, 4⟩, ⟨0, 5⟩]) (Box.new (by simp)) rfl (by decide) (fun _ => rfl) rfl rfl)).mono ?_
  rintro e w48 ⟨rfl, hb⟩
  rw [nmQ]
  have hb := up_later (up_alloc (up_alloc (up0 (w := w47)) (.cells #[iv 11, iv 12] 3)) (.cells #[iv 0, iv 4, iv 0, iv 5] 74)) hb
  clear HQ
  have HB := Lib.hid (up_later HB.out hb)
  have Q1 := Lib.hid (Q1.out.kept hb)
  have Q2 := Lib.hid (Q2.out.kept hb)
  have Q3 := Lib.hid (Q3.out.kept hb)
  have Q4 := Lib.hid (Q4.out.kept hb)
  have Q5 := Lib.hid (Q5.out.kept hb)
  have NN1 := Lib.hid (NN1.out.kept hb)
  have NN2 := Lib.hid (NN2.out.kept hb)
  have NN3 := Lib.hid (NN3.out.kept hb)
  have NN4 := Lib.hid (NN4.out.kept hb)
  have NN5 := Lib.hid (NN5.out.kept hb)
  clear hb
  go_wp2_with fail
  refine (book0_any _).mono ?_
  rintro e w49 ⟨v1, v2, rfl, hq, hb⟩
  have HQ := Lib.hid hq
  clear hq
  have HB := Lib.hid (up_later HB.out hb)
  have Q1 := Lib.hid (Q1.out.kept hb)
  have Q2 := Lib.hid (Q2.out.kept hb)
  have Q3 := Lib.hid (Q3.out.kept hb)
  have Q4 := Lib.hid (Q4.out.kept hb)
  have Q5 := Lib.hid (Q5.out.kept hb)
  have NN1 := Lib.hid (NN1.out.kept hb)
  have NN2 := Lib.hid (NN2.out.kept hb)
  have NN3 := Lib.hid (NN3.out.kept hb)
  have NN4 := Lib.hid (NN4.out.kept hb)
  have NN5 := Lib.hid (NN5.out.kept hb)
  clear hb
  unfold bookV
  go_wp2_with fail
  refine (Possible_any _ _ _ _ bk0 [11, 0] [] 2 _ (HQ.out.kept (up_alloc up0 _)) (ints_box (l := [11, 0]) (Box.new rfl) (by decide)) (RowsAt.nil _)).mono ?_
  rintro e w50 ⟨p1, rfl, hq, hb⟩
  rw [nmR]
  have hb := up_later (up_alloc (up0 (w := w49)) (.cells #[iv 11, iv 0] 3)) hb
  clear hq HQ
  have HB := Lib.hid (up_later HB.out hb)
  have Q1 := Lib.hid (Q1.out.kept hb)
  have Q2 := Lib.hid (Q2.out.kept hb)
  have Q3 := Lib.hid (Q3.out.kept hb)
  have Q4 := Lib.hid (Q4.out.kept hb)
  have Q5 := Lib.hid (Q5.out.kept hb)
  have NN1 := Lib.hid (NN1.out.kept hb)
  have NN2 := Lib.hid (NN2.out.kept hb)
  have NN3 := Lib.hid (NN3.out.kept hb)
  have NN4 := Lib.hid (NN4.out.kept hb)
  have NN5 := Lib.hid (NN5.out.kept hb)
  clear hb
  have MM := NN1.out
  have cMM := fun i => MM.cell i
  have fMM := fun i => MM.free i
  have lMM := MM.lt
  go_wp2_with fail
  clear cMM fMM lMM
  clear MM
  refine (CheckBook_any _ _ ⟨15, 10, [⟨2, 3, 1⟩, ⟨5, 0, 0⟩], [0, 0, 1]⟩ _ Q1.out).mono ?_
  rintro e w51 ⟨rfl, hb⟩
  rw [nmS]
  clear Q1 NN1
  have HB := Lib.hid (up_later HB.out hb)
  have Q2 := Lib.hid (Q2.out.kept hb)
  have Q3 := Lib.hid (Q3.out.kept hb)
  have Q4 := Lib.hid (Q4.out.kept hb)
  have Q5 := Lib.hid (Q5.out.kept hb)
  have NN2 := Lib.hid (NN2.out.kept hb)
  have NN3 := Lib.hid (NN3.out.kept hb)
  have NN4 := Lib.hid (NN4.out.kept hb)
  have NN5 := Lib.hid (NN5.out.kept hb)
  clear hb
  have MM := NN2.out
  have cMM := fun i => MM.cell i
  have fMM := fun i => MM.free i
  have lMM := MM.lt
  go_wp2_with fail
  clear cMM fMM lMM
  clear MM
  refine (CheckBook_any _ _ ⟨13, 14, [⟨2, 3, 1⟩, ⟨5, 0, 0⟩], [0, 0, 1]⟩ _ Q2.out).mono ?_
  rintro e w52 ⟨rfl, hb⟩
  rw [nmT]
  clear Q2 NN2
  have HB := Lib.hid (up_later HB.out hb)
  have Q3 := Lib.hid (Q3.out.kept hb)
  have Q4 := Lib.hid (Q4.out.kept hb)
  have Q5 := Lib.hid (Q5.out.kept hb)
  have NN3 := Lib.hid (NN3.out.kept hb)
  have NN4 := Lib.hid (NN4.out.kept hb)
  have NN5 := Lib.hid (NN5.out.kept hb)
  clear hb
  have MM := NN3.out
  have cMM := fun i => MM.cell i
  have fMM := fun i => MM.free i
  have lMM := MM.lt
  go_wp2_with fail
  clear cMM fMM lMM
  clear MM
  refine (CheckBook_any _ _ ⟨13, 10, [⟨0, 3, 1⟩, ⟨5, 0, 0⟩], [0, 0, 1]⟩ _ Q3.out).mono ?_
  rintro e w53 ⟨rfl, hb⟩
  rw [nmU]
  clear Q3 NN3
  have HB := Lib.hid (up_later HB.out hb)
  have Q4 := Lib.hid (Q4.out.kept hb)
  have Q5 := Lib.hid (Q5.out.kept hb)
  have NN4 := Lib.hid (NN4.out.kept hb)
  have NN5 := Lib.hid (NN5.out.kept hb)
  clear hb
  have MM := NN4.out
  have cMM := fun i => MM.cell i
  have fMM := fun i => MM.free i
  have lMM := MM.lt
  go_wp2_with fail
  clear cMM fMM lMM
  clear MM
  refine (CheckBook_any _ _ ⟨13, 10, [⟨0, 0, 0⟩, ⟨0, 0, 0⟩, ⟨0, 0, 0⟩, ⟨0, 0, 0⟩, ⟨0, 0, 0⟩, ⟨0, 0, 0⟩], [0, 0, 1]⟩ _ Q4.out).mono ?_
  rintro e w54 ⟨rfl, hb⟩
  rw [nmV]
  clear Q4 NN4
  have HB := Lib.hid (up_later HB.out hb)
  have Q5 := Lib.hid (Q5.out.kept hb)
  have NN5 := Lib.hid (NN5.out.kept hb)
  clear hb
  have MM := NN5.out
  have cMM := fun i => MM.cell i
  have fMM := fun i => MM.free i
  have lMM := MM.lt
  go_wp2_with fail
  clear cMM fMM lMM
  clear MM
  refine (CheckBook_any _ _ ⟨13, 10, [⟨2, 3, 1⟩, ⟨5, 0, 0⟩], [2, 0, 1]⟩ _ Q5.out).mono ?_
  rintro e w55 ⟨rfl, hb⟩
  rw [nmW]
  clear Q5 NN5
  have HB := Lib.hid (up_later HB.out hb)
  clear hb
  go_wp2_with fail
  refine (CheckBook_any _ _ ⟨0, 0, [], []⟩ _ ⟨RowsAt.nil _, RowsAt.nil _⟩).mono ?_
  rintro e w56 ⟨rfl, hb⟩
  rw [nmX]
  have HB := Lib.hid (up_later HB.out hb)
  clear hb
  go_wp2_with fail
  refine (awake_any _).mono ?_
  rintro e w57 ⟨rfl, hb⟩
  have HB := Lib.hid (up_later HB.out hb)
  clear hb
  go_wp2_with fail
  go_ret
  exact ⟨rfl, HB.out⟩
end Go.Proofs.Ytkhfkmfofhnmdaa

namespace Go.Proofs.Ytkhfkmfofhnmdaa
open Go.ChangeShapes Go.WideShapes Go.ChangeAt Go.RowKit

set_option maxRecDepth 100000 in
theorem names_lifted (os : Os) (started : os.Started) (H : Type) (enc : TypeId × Value → H) :
    ReturnsInHanded {} Try.checked os 8 .any (Rows.cipherNamesSpec.pre6 enc Try.prog Try.f8 Rows.cipherNamesRow.domain false) (Rows.cipherNamesSpec.post enc Try.prog Try.f8 false true false false) := by
  refine returnsInHanded_of_change (C := Try.checked) own_knob started (by kernel_rfl) Try.func8
    (ChangeSpec.witness6 (enc := enc) (C := Try.checked) false ⟨#[], #[], []⟩ 8 (by kernel_rfl) (by kernel_rfl) (by kernel_rfl) (by kernel_rfl)) ?_
  intro W base args ds gs before hval0 hW hcnd _
  have hW' := hW
  obtain ⟨p, q, hA0, hV, rfl, hfz, hnd⟩ := hW
  have hA : DataW.TrodAll enc Try.prog W 0 (fun _ => true) true Try.f8.params.toList args.toList ds p := hA0
  rw [Try.params8] at hA
  obtain ⟨rfl, rfl, rfl⟩ := trodAll_none hA
  obtain ⟨rfl, rfl⟩ := trodVars_none hV
  clear hA0 hval0
  simp only [List.append_nil] at hW'
  refine (names_any W).mono fun e W' ⟨he, hg⟩ => ?_
  subst he
  exact ⟨_, rfl, post_below (pa := []) (pv := []) hW' hg (fun _ _ _ => (trodAll_cons_mk (shut_bool Try.underlying4 _) trodAll_mk0)) (fun sp _ => rfl) (fun _ _ => rfl) rfl
    (ok_one (by kernel_rfl) rfl (okWide_bool_mk Try.underlying4 _))⟩

theorem names_over : Rows.cipherNamesRow.holds Try.pinned (OpenSpec.ofChange Rows.cipherNamesSpec) :=
  OpenClaim.holds_of_wide 8 Try.f8 rfl rfl rfl rfl rfl rfl rfl ⟨rfl, rfl, rfl, rfl, rfl⟩ rfl rfl rfl rfl rfl (by kernel_rfl) Try.func8 (by kernel_rfl)
    (of_decide_eq_true (by kernel_rfl)) (by unfold Func.isWrapper; first | (rw [if_pos (by decide +kernel)]; kernel_rfl) | (rw [if_neg (by decide +kernel)]; exact ⟨rfl, rfl⟩))
    (fun os started H enc _ => names_lifted os started H enc)

theorem CipherNames_holds : Rows.CipherNamesSaid := names_over

end Go.Proofs.Ytkhfkmfofhnmdaa

