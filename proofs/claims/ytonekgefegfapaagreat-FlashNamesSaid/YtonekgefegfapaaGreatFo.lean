/-
  PLAIN, no function of the program is named: a region that draws its order, by facts, inside a fence that asks nothing, in a round of a loop over an iterator or not; and one of whose operations turns one old block.
-/
import Derived.OrdersIn
import Derived.TacticsIn
import Derived.Test.YtonekgefegfapaaGreatVn
namespace Go.Proofs.YtonekgefegfapaaGreat
open Go.RowKit

/-- A fence that asks nothing. -/
structure OpenF (F : Fence) : Prop where
  fn : ∀ f, F.fn f
  depth : F.depth = none
  sem : ∀ (o : Oper) (ρ : Operand → Value), (∀ c, o.op ≠ .defer c) → o.semAt F.round ρ = execOp ρ o
  calls : ∀ {P : Program} {f : FuncId} {args : Array Value} {w : World} {R : Ending → World → Prop} (n : Nat), Calls P f args w R → CallsIn F n P f args w R
  rows : ∀ {P : Program} {row : String} {args : Array Value} {w : World} {R : Value → World → Prop} (n : Nat), Rows P row args w R → RowsIn F n P row args w R
theorem open_wide : OpenF Fence.wide := ⟨fun _ => trivial, rfl, fun o ρ _ => Oper.semAt_none ρ o, fun _ h => callsIn_wide.2 h, fun n h c cs _ => by
    obtain ⟨v, w', r, s⟩ := h c cs
    exact ⟨v, w', r, stepsIn_wide.2 s⟩⟩
theorem open_round (l : Nat) : OpenF (Fence.wide.inRound l) := ⟨fun _ => trivial, rfl, fun o ρ h => by rw [Fence.inRound_round]; exact Oper.semAt_some l ρ o h, fun n h => (callsIn_wide (n := n)).2 h, fun n h c cs _ => by
    obtain ⟨v, w', r, s⟩ := h c cs
    exact ⟨v, w', r, stepsIn_wide.2 s⟩⟩
/-- No operation is a defer statement. -/
def plainB (ops : Array Oper) : Bool := ops.toList.all fun o => match o.op with | .defer _ => false | _ => true
section
variable {P : Program} {Q Q' : Exit → Act → World → Prop} {n : Nat} {F : Fence}
theorem operIn_of (hF : OpenF F) {o : Oper} {a : Act} {w : World} {K K' : Act → World → Prop} (hd : ∀ c, o.op ≠ .defer c) (h : ∀ a w, K a w → K' a w) (hQ : ∀ e a w, Q e a w → Q' e a w) (hL : ¬ LetsOut Q) (hh : o.wp P a w K Q) : o.wpIn F n P a w K' Q' := by
  unfold Oper.wp at hh
  unfold Oper.wpIn
  refine ⟨fun f _ => hF.fn f, ?_⟩
  rw [hF.sem _ _ hd]
  generalize (execOp a.eval o).run P w = r at *
  cases r with
  | ok x w' =>
    cases x <;> simp only [Oper.upon, Oper.uponIn] at hh ⊢ <;>
      first
        | exact h _ _ hh
        | exact ⟨fun hx => (by rw [hF.depth] at hx; cases hx), hF.calls _ (Calls.mono hh (fun e w'' he => by cases e <;> first | exact h _ _ he | exact hQ _ _ _ he | exact absurd he hL))⟩
        | exact ⟨fun hx => (by rw [hF.depth] at hx; cases hx), hF.rows _ (Rows.mono hh (fun _ _ he => h _ _ he))⟩
  | halt x w' => cases x <;> simp only [Oper.upon, Oper.uponIn] at hh ⊢ <;> exact hQ _ _ _ hh
theorem wpAnyIn_of (hF : OpenF F) {md : Region.Mode} {ops : Array Oper} (hp : plainB ops = true) (hQ : ∀ e a w, Q e a w → Q' e a w) (hL : ¬ LetsOut Q) : ∀ (fuel : Nat) (listed : Array Bool) (a : Act) (w : World), wpAny P md ops Q fuel listed a w → wpAnyIn F n P md ops Q' fuel listed a w := by
  intro fuel
  induction fuel with
  | zero => intro listed a w h; exact ⟨h.1, hQ _ _ _ h.2⟩
  | succ fuel ih =>
    intro listed a w h
    refine ⟨fun h0 => hQ _ _ _ (h.1 h0), fun i hi => ?_⟩
    have hh := h.2 i hi
    unfold wpOp at hh
    unfold wpOpIn
    split
    · rename_i ho
      simp only [ho] at hh
      exact ih _ _ _ hh
    · rename_i o ho
      simp only [ho] at hh
      have hd : ∀ c, o.op ≠ .defer c := fun c hc => by
        have := List.all_eq_true.1 hp o (Array.mem_toList_iff.2 (Array.mem_of_getElem? ho))
        rw [hc] at this
        cases this
      split
      · rename_i hw
        rw [if_pos hw] at hh
        exact operIn_of hF hd (fun a w => ih _ a w) hQ hL (hh.resolve_right fun x => hL x.2)
      · rename_i hw
        rw [if_neg hw] at hh
        exact ⟨fun f _ => hF.fn f, ih _ _ _ hh⟩
end

theorem letsOut_no (Q : Act → World → Prop) : ¬ LetsOut (fun e a w => e = Exit.normal ∧ Q a w) := fun ⟨_, _, h, _⟩ => by cases h

/-- **A region that draws its order, by facts, in a round.** -/
theorem wpIn_region_facts {Fc : Fence} (hF9 : OpenF Fc) {P : Program} {id : Nat} {Q : Exit → Act → World → Prop} {a0 : Act} {w0 : World} {l : List Oper} {m : Nat} (n : Nat) (R : World → World → Prop) (F : Nat → Value → World → Prop)
    (hm : P.follows .mixedOrders = true) (hpl : plainB l.toArray = true) (hB : factsB .any l.toArray n = true) (h0 : R w0 w0.drew) (hR : ∀ a b c, R a b → R b c → R a c) (hF : ∀ i v w w', F i v w → R w w' → F i v w')
    (G : Nat → Bool) (hS : ∀ a b, R a b → a.heap.size ≤ b.heap.size) (hG : ∀ i v w, G i = true → F i v w → blk v < w.heap.size)
    (hstep : ∀ (vs : Nat → Value), Each (fun i o => ∀ w : World, R w0 w → (∀ d, d < n → leansOn l.toArray o d = true → F d (vs d) w) →
      if Region.wanted o (yielded l.toArray (putAll (fun _ => true) vs 0 (l.take n) a0).tmps) then Gives P o (putAll (fun _ => true) vs 0 (l.take n) a0) w (fun v w' => R w w' ∧ F i v w' ∧ (G i = true → w.heap.size ≤ blk v)) else F i undef w ∧ R w w ∧ G i = false) 0 (l.take n))
    (htail : ∀ (vs : Nat → Value) (w : World), R w0 w → (∀ d, d < n → F d (vs d) w) → (∀ i j, i < n → j < n → i ≠ j → G i = true → G j = true → blk (vs i) ≠ blk (vs j)) → (∀ i, i < n → G i = true → w0.heap.size ≤ blk (vs i)) → wpList P l.toArray (fun e a w => e = .normal ∧ Q .normal a w) (l.drop n) (putAll (fun _ => true) vs 0 (l.take n) a0) w) :
    (Code.region id l.toArray true).wpIn Fc m P Q a0 w0 := by
  refine wpIn_region_any hm (wpAnyIn_of hF9 (Q := fun e a w => e = .normal ∧ Q .normal a w) hpl (fun _ _ _ h => by obtain ⟨rfl, h⟩ := h; exact h) (letsOut_no _) _ _ _ _ ?_)
  have hn : n ≤ l.toArray.size := by
    simp only [factsB, Bool.and_eq_true, decide_eq_true_eq] at hB
    exact hB.1.1.1.2
  have inv0 : HeadInv .any l.toArray n (Array.replicate l.toArray.size false) :=
    ⟨by simp, fun j oj _ hl => (by rw [getD_replicate_false] at hl; cases hl), fun t _ ht => getD_in (by simpa using ht) (getD_replicate_false _ _)⟩
  have hun : unl n (Array.replicate l.toArray.size false) = n := by
    unfold unl
    rw [List.countP_eq_length.2]
    · simp
    · intro i _; rw [getD_replicate_false]; rfl
  have hput : putAll (fun i => (Array.replicate l.toArray.size false).getD i false) (fun _ => undef) 0 (l.take n) a0 = a0 := by
    have hg : ∀ (l' : List Oper) (k : Nat) (a : Act), putAll (fun i => (Array.replicate l.toArray.size false).getD i false) (fun _ => undef) k l' a = a := by
      intro l'
      induction l' with
      | nil => intro k a; rfl
      | cons o r ih => intro k a; unfold putAll; rw [getD_replicate_false, if_neg (by simp)]; exact ih _ _
    exact hg _ _ _
  have := wpAny_facts (P := P) (md := .any) (ops := l.toArray) (Q := fun e a w => e = .normal ∧ Q .normal a w) (n := n) (R := R) (F := F) (a0 := a0) (w0 := w0) hB hR hF G hS hG
    (fun i o hi ho vs w hRw hd => by
      have h := Each.get (hstep vs) i o (by rw [List.getElem?_take, if_pos hi]; simpa using ho)
      rw [Nat.zero_add] at h
      exact h w hRw hd)
    (fun vs w hRw hd hDs hLs => htail vs w hRw hd hDs hLs) n (Array.replicate l.toArray.size false) (fun _ => undef) w0.drew inv0 hun h0
    (fun d _ hl => by rw [getD_replicate_false] at hl; cases hl) (fun d e _ _ _ hl => by rw [getD_replicate_false] at hl; cases hl) (fun d _ hl => by rw [getD_replicate_false] at hl; cases hl)
  rw [hput, show n + (l.toArray.size - n) = l.toArray.size by omega] at this
  exact this

theorem wpIn_region_by {Fc : Fence} (hF9 : OpenF Fc) {P : Program} {id : Nat} {Q : Exit → Act → World → Prop} {a0 : Act} {w0 : World} {l : List Oper} {m : Nat} (n : Nat) (Fs : List Fact) (A : (Nat → Value) → Act)
    (hm : P.follows .mixedOrders = true) (hpl : plainB l.toArray = true) (hB : factsB .any l.toArray n = true) (hA : ∀ vs, putAll (fun _ => true) vs 0 (l.take n) a0 = A vs)
    (hstep : ∀ (vs : Nat → Value), Each (fun i o => ∀ w : World, Below w0.heap.size w0 w → (∀ d, d < n → leansOn l.toArray o d = true → (Fs.getD d Fact.any).p (vs d) w) →
      if Region.wanted o (yielded l.toArray (A vs).tmps) = true then Gives P o (A vs) w (fun v w' => Below w.heap.size w w' ∧ (Fs.getD i Fact.any).p v w' ∧ ((Fs.getD i Fact.any).fr = true → w.heap.size ≤ blk v)) else (Fs.getD i Fact.any).p undef w ∧ (Fs.getD i Fact.any).fr = false) 0 (l.take n))
    (htail : ∀ (vs : Nat → Value) (w : World), Below w0.heap.size w0 w → (∀ d, d < n → (Fs.getD d Fact.any).p (vs d) w) → (∀ i j, i < n → j < n → i ≠ j → (Fs.getD i Fact.any).fr = true → (Fs.getD j Fact.any).fr = true → blk (vs i) ≠ blk (vs j)) → (∀ i, i < n → (Fs.getD i Fact.any).fr = true → w0.heap.size ≤ blk (vs i)) → wpList P l.toArray (fun e a w => e = .normal ∧ Q .normal a w) (l.drop n) (A vs) w) :
    (Code.region id l.toArray true).wpIn Fc m P Q a0 w0 := by
  refine wpIn_region_facts hF9 n (fun w w' => Below w.heap.size w w') (fun i v w => (Fs.getD i Fact.any).p v w) hm hpl hB (Below.refl _ _).drew (fun a b c h k => h.trans (k.mono h.size)) (fun i v w w' h k => (Fs.getD i Fact.any).st v w w' h k) (fun i => (Fs.getD i Fact.any).fr) (fun _ _ h => h.size) (fun i v w h k => (Fs.getD i Fact.any).lt v w h k) ?_ ?_
  · intro vs
    have hg : ∀ (l' : List Oper) (k : Nat), Each (fun i o => ∀ w : World, Below w0.heap.size w0 w → (∀ d, d < n → leansOn l.toArray o d = true → (Fs.getD d Fact.any).p (vs d) w) →
        if Region.wanted o (yielded l.toArray (A vs).tmps) = true then Gives P o (A vs) w (fun v w' => Below w.heap.size w w' ∧ (Fs.getD i Fact.any).p v w' ∧ ((Fs.getD i Fact.any).fr = true → w.heap.size ≤ blk v)) else (Fs.getD i Fact.any).p undef w ∧ (Fs.getD i Fact.any).fr = false) k l' →
        Each (fun i o => ∀ w : World, Below w0.heap.size w0 w → (∀ d, d < n → leansOn l.toArray o d = true → (Fs.getD d Fact.any).p (vs d) w) →
        if Region.wanted o (yielded l.toArray (putAll (fun _ => true) vs 0 (l.take n) a0).tmps) = true then Gives P o (putAll (fun _ => true) vs 0 (l.take n) a0) w (fun v w' => Below w.heap.size w w' ∧ (Fs.getD i Fact.any).p v w' ∧ ((Fs.getD i Fact.any).fr = true → w.heap.size ≤ blk v)) else (Fs.getD i Fact.any).p undef w ∧ Below w.heap.size w w ∧ (Fs.getD i Fact.any).fr = false) k l' := by
      intro l'
      induction l' with
      | nil => intro k _; trivial
      | cons o r ih =>
        intro k h
        refine ⟨fun w hw hd => ?_, ih _ h.2⟩
        have h1 := h.1 w hw hd
        rw [hA vs]
        split
        · rename_i hw'; rw [if_pos hw'] at h1; exact h1
        · rename_i hw'; rw [if_neg hw'] at h1; exact ⟨h1.1, Below.refl _ _, h1.2⟩
    exact hg _ _ (hstep vs)
  · intro vs w hw hd hDs hLs
    rw [hA vs]
    exact htail vs w hw hd hDs hLs

/-- **A region that draws its order, one of whose operations turns one old block, in a round.** -/
theorem wpIn_region_once {Fc : Fence} (hF9 : OpenF Fc) {m9 : Nat} {P : Program} {id : Nat} {Q : Exit → Act → World → Prop} {a0 : Act} {w0 : World} {l : List Oper} (n p : Nat) (row : Option Nat) (Fs : List (FactR row)) (Fp : Value → World → World → Prop) (A : (Nat → Value) → Act)
    (hm : P.follows .mixedOrders = true) (hpl : plainB l.toArray = true) (hB : factsB .any l.toArray n = true) (hA : ∀ vs, putAll (fun _ => true) vs 0 (l.take n) a0 = A vs) (hpn : p < n) (hFp : ∀ v a b, Fp v a b → a.grownBy b row)
    (hstep : ∀ (vs : Nat → Value), Each (fun i o => i ≠ p → ∀ w : World, w0.grownBy w row → (∀ d, d < n → leansOn l.toArray o d = true → d ≠ p → (Fs.getD d (FactR.any row)).p (vs d) w) →
      if Region.wanted o (yielded l.toArray (A vs).tmps) = true then Gives P o (A vs) w (fun v w' => Below w.heap.size w w' ∧ (Fs.getD i (FactR.any row)).p v w') else (Fs.getD i (FactR.any row)).p undef w) 0 (l.take n))
    (hp : ∀ (vs : Nat → Value) (o : Oper), l[p]? = some o → ∀ w : World, Below w0.heap.size w0 w → (∀ d, d < n → leansOn l.toArray o d = true → d ≠ p → (Fs.getD d (FactR.any row)).p (vs d) w) →
      Region.wanted o (yielded l.toArray (A vs).tmps) = true ∧ Gives P o (A vs) w (fun v w' => Fp v w w'))
    (htail : ∀ (vs : Nat → Value) (wt w1 w : World), Below w0.heap.size w0 wt → Fp (vs p) wt w1 → Below w1.heap.size w1 w → (∀ d, d < n → d ≠ p → (Fs.getD d (FactR.any row)).p (vs d) w) → wpList P l.toArray (fun e a w => e = .normal ∧ Q .normal a w) (l.drop n) (A vs) w) :
    (Code.region id l.toArray true).wpIn Fc m9 P Q a0 w0 := by
  refine wpIn_region_any hm (wpAnyIn_of hF9 (Q := fun e a w => e = .normal ∧ Q .normal a w) hpl (fun _ _ _ h => by obtain ⟨rfl, h⟩ := h; exact h) (letsOut_no _) _ _ _ _ ?_)
  have hn : n ≤ l.toArray.size := by
    simp only [factsB, Bool.and_eq_true, decide_eq_true_eq] at hB
    exact hB.1.1.1.2
  have inv0 : HeadInv .any l.toArray n (Array.replicate l.toArray.size false) :=
    ⟨by simp, fun j oj _ hl => (by rw [getD_replicate_false] at hl; cases hl), fun t _ ht => getD_in (by simpa using ht) (getD_replicate_false _ _)⟩
  have hun : unl n (Array.replicate l.toArray.size false) = n := by
    unfold unl
    rw [List.countP_eq_length.2]
    · simp
    · intro i _; rw [getD_replicate_false]; rfl
  have hput : putAll (fun i => (Array.replicate l.toArray.size false).getD i false) (fun _ => undef) 0 (l.take n) a0 = a0 := by
    have hg : ∀ (l' : List Oper) (k : Nat) (a : Act), putAll (fun i => (Array.replicate l.toArray.size false).getD i false) (fun _ => undef) k l' a = a := by
      intro l'
      induction l' with
      | nil => intro k a; rfl
      | cons o r ih => intro k a; unfold putAll; rw [getD_replicate_false, if_neg (by simp)]; exact ih _ _
    exact hg _ _ _
  have h0 : OnceInv Fs Fp n p w0 (fun i => (Array.replicate l.toArray.size false).getD i false) (fun _ => undef) w0.drew :=
    ⟨(fun d _ _ h => by simp only [getD_replicate_false] at h; cases h), (fun _ => (Below.refl _ _).drew), (fun h => by simp only [getD_replicate_false] at h; cases h)⟩
  have := wpAny_inv (P := P) (md := .any) (ops := l.toArray) (Q := fun e a w => e = .normal ∧ Q .normal a w) (n := n) (a0 := a0) hB (OnceInv Fs Fp n p w0) (fun i o hi ho L vs w hLi hdep hI => ?_) (fun L vs w hall hI => ?_) n (Array.replicate l.toArray.size false) (fun _ => undef) w0.drew inv0 hun h0
  · rw [hput, show n + (l.toArray.size - n) = l.toArray.size by omega] at this
    exact this
  · have hAA : putAll (fun _ => true) vs 0 (l.toArray.toList.take n) a0 = A vs := hA vs
    rw [hAA]
    have hdeps : ∀ d, d < n → leansOn l.toArray o d = true → d ≠ p → (Fs.getD d (FactR.any row)).p (vs d) w := fun d hd hl hdp => hI.each d hd hdp (hdep d hd hl)
    have hset : ∀ {j : Nat}, j ≠ i → (if j = i then true else L j) = L j := fun h => if_neg h
    by_cases hip : i = p
    · subst hip
      have h1 := hp vs o (by simpa using ho) w (hI.before hLi) hdeps
      rw [if_pos h1.1]
      refine h1.2.mono fun v w' hf => ⟨fun d hd hdp hl => ?_, fun hl => ?_, fun _ => ⟨w, w', hI.before hLi, ?_, Below.refl _ _⟩⟩
      · rw [hset hdp] at hl
        rw [if_neg hdp]
        exact (Fs.getD d (FactR.any row)).st _ _ _ (hI.each d hd hdp hl) (hFp _ _ _ hf)
      · simp at hl
      · rw [if_pos rfl]
        exact hf
    · have hE := Each.get (hstep vs) i o (by rw [List.getElem?_take, if_pos hi]; simpa using ho)
      rw [Nat.zero_add] at hE
      have h1 := hE hip w (hI.grown hFp) hdeps
      have key : ∀ v w', Below w.heap.size w w' → (Fs.getD i (FactR.any row)).p v w' → OnceInv Fs Fp n p w0 (fun j => if j = i then true else L j) (fun j => if j = i then v else vs j) w' := by
        intro v w' hb hf
        refine ⟨fun d hd hdp hl => ?_, fun hl => ?_, fun hl => ?_⟩
        · by_cases hdi : d = i
          · subst hdi
            rw [if_pos rfl]
            exact hf
          · rw [hset hdi] at hl
            rw [if_neg hdi]
            exact (Fs.getD d (FactR.any row)).st _ _ _ (hI.each d hd hdp hl) ((grown_of_below hb).but row)
        · rw [hset (Ne.symm hip)] at hl
          exact up_later (hI.before hl) hb
        · rw [hset (Ne.symm hip)] at hl
          obtain ⟨wt, w1, a1, a2, a3⟩ := hI.behind hl
          exact ⟨wt, w1, a1, by rw [if_neg (Ne.symm hip)]; exact a2, up_later a3 hb⟩
      split
      · rename_i hw
        rw [if_pos hw] at h1
        exact h1.mono fun v w' ⟨hb, hf⟩ => key v w' hb hf
      · rename_i hw
        rw [if_neg hw] at h1
        exact key undef w (Below.refl _ _) h1
  · have hAA : putAll (fun _ => true) vs 0 (l.toArray.toList.take n) a0 = A vs := hA vs
    rw [hAA]
    obtain ⟨wt, w1, h1, h2, h3⟩ := hI.behind (hall p hpn)
    exact htail vs wt w1 w h1 h2 h3 fun d hd hdp => hI.each d hd hdp (hall d hd)


section
variable {row : Option Nat} {Fs : List (FactR row)} {Fp : Value → World → World → Prop} {n p : Nat} {w0 w : World} {L : Nat → Bool} {vs : Nat → Value}
structure OnceInvV (Fs : List (FactR row)) (Fp : Value → World → World → Prop) (n p : Nat) (w0 : World) (L : Nat → Bool) (vs : Nat → Value) (w : World) : Prop where
  each : ∀ d, d < n → L d = true → (Fs.getD d (FactR.any row)).p (vs d) w
  before : L p = false → Below w0.heap.size w0 w
  behind : L p = true → ∃ wt w1, Below w0.heap.size w0 wt ∧ Fp (vs p) wt w1 ∧ Below w1.heap.size w1 w
theorem OnceInvV.grown (hFp : ∀ v a b, Fp v a b → a.grownBy b row) (h : OnceInvV Fs Fp n p w0 L vs w) : w0.grownBy w row := by
  cases hp : L p with
  | false => exact (grown_of_below (h.before hp)).but row
  | true =>
    obtain ⟨wt, w1, h1, h2, h3⟩ := h.behind hp
    exact ((grown_of_below h1).but row).trans ((hFp _ _ _ h2).trans ((grown_of_below h3).but row))
end

/-- **A region that draws its order, one of whose operations turns one old block, in a round: its value is known too.** -/
theorem wpIn_region_oncev {Fc : Fence} (hF9 : OpenF Fc) {m9 : Nat} {P : Program} {id : Nat} {Q : Exit → Act → World → Prop} {a0 : Act} {w0 : World} {l : List Oper} (n p : Nat) (row : Option Nat) (Fs : List (FactR row)) (Fp : Value → World → World → Prop) (A : (Nat → Value) → Act)
    (hm : P.follows .mixedOrders = true) (hpl : plainB l.toArray = true) (hB : factsB .any l.toArray n = true) (hA : ∀ vs, putAll (fun _ => true) vs 0 (l.take n) a0 = A vs) (hpn : p < n) (hFp : ∀ v a b, Fp v a b → a.grownBy b row)
    (hstep : ∀ (vs : Nat → Value), Each (fun i o => i ≠ p → ∀ w : World, w0.grownBy w row → (∀ d, d < n → leansOn l.toArray o d = true → (Fs.getD d (FactR.any row)).p (vs d) w) →
      if Region.wanted o (yielded l.toArray (A vs).tmps) = true then Gives P o (A vs) w (fun v w' => Below w.heap.size w w' ∧ (Fs.getD i (FactR.any row)).p v w') else (Fs.getD i (FactR.any row)).p undef w) 0 (l.take n))
    (hp : ∀ (vs : Nat → Value) (o : Oper), l[p]? = some o → ∀ w : World, Below w0.heap.size w0 w → (∀ d, d < n → leansOn l.toArray o d = true → (Fs.getD d (FactR.any row)).p (vs d) w) →
      Region.wanted o (yielded l.toArray (A vs).tmps) = true ∧ Gives P o (A vs) w (fun v w' => Fp v w w' ∧ (Fs.getD p (FactR.any row)).p v w'))
    (htail : ∀ (vs : Nat → Value) (wt w1 w : World), Below w0.heap.size w0 wt → Fp (vs p) wt w1 → Below w1.heap.size w1 w → (∀ d, d < n → (Fs.getD d (FactR.any row)).p (vs d) w) → wpList P l.toArray (fun e a w => e = .normal ∧ Q .normal a w) (l.drop n) (A vs) w) :
    (Code.region id l.toArray true).wpIn Fc m9 P Q a0 w0 := by
  refine wpIn_region_any hm (wpAnyIn_of hF9 (Q := fun e a w => e = .normal ∧ Q .normal a w) hpl (fun _ _ _ h => by obtain ⟨rfl, h⟩ := h; exact h) (letsOut_no _) _ _ _ _ ?_)
  have hn : n ≤ l.toArray.size := by
    simp only [factsB, Bool.and_eq_true, decide_eq_true_eq] at hB
    exact hB.1.1.1.2
  have inv0 : HeadInv .any l.toArray n (Array.replicate l.toArray.size false) :=
    ⟨by simp, fun j oj _ hl => (by rw [getD_replicate_false] at hl; cases hl), fun t _ ht => getD_in (by simpa using ht) (getD_replicate_false _ _)⟩
  have hun : unl n (Array.replicate l.toArray.size false) = n := by
    unfold unl
    rw [List.countP_eq_length.2]
    · simp
    · intro i _; rw [getD_replicate_false]; rfl
  have hput : putAll (fun i => (Array.replicate l.toArray.size false).getD i false) (fun _ => undef) 0 (l.take n) a0 = a0 := by
    have hg : ∀ (l' : List Oper) (k : Nat) (a : Act), putAll (fun i => (Array.replicate l.toArray.size false).getD i false) (fun _ => undef) k l' a = a := by
      intro l'
      induction l' with
      | nil => intro k a; rfl
      | cons o r ih => intro k a; unfold putAll; rw [getD_replicate_false, if_neg (by simp)]; exact ih _ _
    exact hg _ _ _
  have h0 : OnceInvV Fs Fp n p w0 (fun i => (Array.replicate l.toArray.size false).getD i false) (fun _ => undef) w0.drew :=
    ⟨(fun d _ h => by simp only [getD_replicate_false] at h; cases h), (fun _ => (Below.refl _ _).drew), (fun h => by simp only [getD_replicate_false] at h; cases h)⟩
  have := wpAny_inv (P := P) (md := .any) (ops := l.toArray) (Q := fun e a w => e = .normal ∧ Q .normal a w) (n := n) (a0 := a0) hB (OnceInvV Fs Fp n p w0) (fun i o hi ho L vs w hLi hdep hI => ?_) (fun L vs w hall hI => ?_) n (Array.replicate l.toArray.size false) (fun _ => undef) w0.drew inv0 hun h0
  · rw [hput, show n + (l.toArray.size - n) = l.toArray.size by omega] at this
    exact this
  · have hAA : putAll (fun _ => true) vs 0 (l.toArray.toList.take n) a0 = A vs := hA vs
    rw [hAA]
    have hdeps : ∀ d, d < n → leansOn l.toArray o d = true → (Fs.getD d (FactR.any row)).p (vs d) w := fun d hd hl => hI.each d hd (hdep d hd hl)
    have hset : ∀ {j : Nat}, j ≠ i → (if j = i then true else L j) = L j := fun h => if_neg h
    by_cases hip : i = p
    · subst hip
      have h1 := hp vs o (by simpa using ho) w (hI.before hLi) hdeps
      rw [if_pos h1.1]
      refine h1.2.mono fun v w' hf => ⟨fun d hd hl => ?_, fun hl => ?_, fun _ => ⟨w, w', hI.before hLi, ?_, Below.refl _ _⟩⟩
      · by_cases hdp : d = i
        · subst hdp
          rw [if_pos rfl]
          exact hf.2
        · rw [hset hdp] at hl
          rw [if_neg hdp]
          exact (Fs.getD d (FactR.any row)).st _ _ _ (hI.each d hd hl) (hFp _ _ _ hf.1)
      · simp at hl
      · rw [if_pos rfl]
        exact hf.1
    · have hE := Each.get (hstep vs) i o (by rw [List.getElem?_take, if_pos hi]; simpa using ho)
      rw [Nat.zero_add] at hE
      have h1 := hE hip w (hI.grown hFp) hdeps
      have key : ∀ v w', Below w.heap.size w w' → (Fs.getD i (FactR.any row)).p v w' → OnceInvV Fs Fp n p w0 (fun j => if j = i then true else L j) (fun j => if j = i then v else vs j) w' := by
        intro v w' hb hf
        refine ⟨fun d hd hl => ?_, fun hl => ?_, fun hl => ?_⟩
        · by_cases hdi : d = i
          · subst hdi
            rw [if_pos rfl]
            exact hf
          · rw [hset hdi] at hl
            rw [if_neg hdi]
            exact (Fs.getD d (FactR.any row)).st _ _ _ (hI.each d hd hl) ((grown_of_below hb).but row)
        · rw [hset (Ne.symm hip)] at hl
          exact up_later (hI.before hl) hb
        · rw [hset (Ne.symm hip)] at hl
          obtain ⟨wt, w1, a1, a2, a3⟩ := hI.behind hl
          exact ⟨wt, w1, a1, by rw [if_neg (Ne.symm hip)]; exact a2, up_later a3 hb⟩
      split
      · rename_i hw
        rw [if_pos hw] at h1
        exact h1.mono fun v w' ⟨hb, hf⟩ => key v w' hb hf
      · rename_i hw
        rw [if_neg hw] at h1
        exact key undef w (Below.refl _ _) h1
  · have hAA : putAll (fun _ => true) vs 0 (l.toArray.toList.take n) a0 = A vs := hA vs
    rw [hAA]
    obtain ⟨wt, w1, h1, h2, h3⟩ := hI.behind (hall p hpn)
    exact htail vs wt w1 w h1 h2 h3 fun d hd => hI.each d hd (hall d hd)


end Go.Proofs.YtonekgefegfapaaGreat
