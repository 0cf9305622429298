/-
  PLAIN, no function of the program is named: a region that draws its order, one of whose operations appends to a slice of the caller's own.
-/
import Derived.Test.YtojbdmdjepgpjaaLt
import Derived.Test.YtojbdmdjepgpjaaAp
import Derived.Maps.RangeWalk
namespace Go.Proofs.Ytojbdmdjepgpjaa
open Go.RowKit

/-- What is known of a value, and lasts whatever becomes of the block 'row'. -/
structure FactR (row : Option Nat) where
  p : Value → World → Prop
  st : ∀ v w w', p v w → w.grownBy w' row → p v w'
def FactR.eq (row : Option Nat) (c : Value) : FactR row := ⟨fun v _ => v = c, fun _ _ _ h _ => h⟩
def FactR.any (row : Option Nat) : FactR row := ⟨fun _ _ => True, fun _ _ _ _ _ => trivial⟩
def FactR.sl (row : Option Nat) (n : Nat) (t : TypeId) (cs : Array Value) : FactR row := ⟨fun v w => ∃ g, v = .slice (some ⟨g, 0, none⟩) n n ∧ Box w g t cs ∧ some g ≠ row, fun _ _ _ ⟨g, h, hb, hn⟩ hg => ⟨g, h, hb.grown hg hn, hn⟩⟩

section
variable {row : Option Nat} {Fs : List (FactR row)} {Fp : Value → World → World → Prop} {n p : Nat} {w0 w : World} {L : Nat → Bool} {vs : Nat → Value}
structure OnceInv (Fs : List (FactR row)) (Fp : Value → World → World → Prop) (n p : Nat) (w0 : World) (L : Nat → Bool) (vs : Nat → Value) (w : World) : Prop where
  each : ∀ d, d < n → d ≠ p → L d = true → (Fs.getD d (FactR.any row)).p (vs d) w
  before : L p = false → Below w0.heap.size w0 w
  behind : L p = true → ∃ wt w1, Below w0.heap.size w0 wt ∧ Fp (vs p) wt w1 ∧ Below w1.heap.size w1 w
theorem OnceInv.grown (hFp : ∀ v a b, Fp v a b → a.grownBy b row) (h : OnceInv Fs Fp n p w0 L vs w) : w0.grownBy w row := by
  cases hp : L p with
  | false => exact (grown_of_below (h.before hp)).but row
  | true =>
    obtain ⟨wt, w1, h1, h2, h3⟩ := h.behind hp
    exact ((grown_of_below h1).but row).trans ((hFp _ _ _ h2).trans ((grown_of_below h3).but row))
end

/-- **A region that draws its order, and appends once.** -/
theorem wp_region_once {P : Program} {id : Nat} {Q : Exit → Act → World → Prop} {a0 : Act} {w0 : World} {l : List Oper} (n p : Nat) (row : Option Nat) (Fs : List (FactR row)) (Fp : Value → World → World → Prop) (A : (Nat → Value) → Act)
    (hm : P.follows .mixedOrders = true) (hB : factsB .any l.toArray n = true) (hA : ∀ vs, putAll (fun _ => true) vs 0 (l.take n) a0 = A vs) (hpn : p < n) (hFp : ∀ v a b, Fp v a b → a.grownBy b row)
    (hstep : ∀ (vs : Nat → Value), Each (fun i o => i ≠ p → ∀ w : World, w0.grownBy w row → (∀ d, d < n → leansOn l.toArray o d = true → d ≠ p → (Fs.getD d (FactR.any row)).p (vs d) w) →
      if Region.wanted o (yielded l.toArray (A vs).tmps) = true then Gives P o (A vs) w (fun v w' => Below w.heap.size w w' ∧ (Fs.getD i (FactR.any row)).p v w') else (Fs.getD i (FactR.any row)).p undef w) 0 (l.take n))
    (hp : ∀ (vs : Nat → Value) (o : Oper), l[p]? = some o → ∀ w : World, Below w0.heap.size w0 w → (∀ d, d < n → leansOn l.toArray o d = true → d ≠ p → (Fs.getD d (FactR.any row)).p (vs d) w) →
      Region.wanted o (yielded l.toArray (A vs).tmps) = true ∧ Gives P o (A vs) w (fun v w' => Fp v w w'))
    (htail : ∀ (vs : Nat → Value) (wt w1 w : World), Below w0.heap.size w0 wt → Fp (vs p) wt w1 → Below w1.heap.size w1 w → (∀ d, d < n → d ≠ p → (Fs.getD d (FactR.any row)).p (vs d) w) → wpList P l.toArray Q (l.drop n) (A vs) w) :
    (Code.region id l.toArray true).wp P Q a0 w0 := by
  refine wp_region_any hm ?_
  have hn : n ≤ l.toArray.size := by
    simp only [factsB, Bool.and_eq_true, decide_eq_true_eq] at hB
    exact hB.1.1.1.2
  have inv0 : HeadInv .any l.toArray n (Array.replicate l.toArray.size false) :=
    ⟨by simp, fun j oj _ hl => (by rw [getD_replicate_false] at hl; cases hl), fun t _ ht => getD_in (by simpa using ht) (getD_replicate_false _ _)⟩
  have hun : unl n (Array.replicate l.toArray.size false) = n := by
    unfold unl
    rw [List.countP_eq_length.2]
    · simp
    · intro i _; rw [getD_replicate_false]; rfl
  have hput : putAll (fun i => (Array.replicate l.toArray.size false).getD i false) (fun _ => undef) 0 (l.take n) a0 = a0 := by
    have hg : ∀ (l' : List Oper) (k : Nat) (a : Act), putAll (fun i => (Array.replicate l.toArray.size false).getD i false) (fun _ => undef) k l' a = a := by
      intro l'
      induction l' with
      | nil => intro k a; rfl
      | cons o r ih => intro k a; unfold putAll; rw [getD_replicate_false, if_neg (by simp)]; exact ih _ _
    exact hg _ _ _
  have h0 : OnceInv Fs Fp n p w0 (fun i => (Array.replicate l.toArray.size false).getD i false) (fun _ => undef) w0.drew :=
    ⟨(fun d _ _ h => by simp only [getD_replicate_false] at h; cases h), (fun _ => (Below.refl _ _).drew), (fun h => by simp only [getD_replicate_false] at h; cases h)⟩
  have := wpAny_inv (P := P) (md := .any) (ops := l.toArray) (Q := Q) (n := n) (a0 := a0) hB (OnceInv Fs Fp n p w0) (fun i o hi ho L vs w hLi hdep hI => ?_) (fun L vs w hall hI => ?_) n (Array.replicate l.toArray.size false) (fun _ => undef) w0.drew inv0 hun h0
  · rw [hput, show n + (l.toArray.size - n) = l.toArray.size by omega] at this
    exact this
  · have hAA : putAll (fun _ => true) vs 0 (l.toArray.toList.take n) a0 = A vs := hA vs
    rw [hAA]
    have hdeps : ∀ d, d < n → leansOn l.toArray o d = true → d ≠ p → (Fs.getD d (FactR.any row)).p (vs d) w := fun d hd hl hdp => hI.each d hd hdp (hdep d hd hl)
    have hset : ∀ {j : Nat}, j ≠ i → (if j = i then true else L j) = L j := fun h => if_neg h
    by_cases hip : i = p
    · subst hip
      have h1 := hp vs o (by simpa using ho) w (hI.before hLi) hdeps
      rw [if_pos h1.1]
      refine h1.2.mono fun v w' hf => ⟨fun d hd hdp hl => ?_, fun hl => ?_, fun _ => ⟨w, w', hI.before hLi, ?_, Below.refl _ _⟩⟩
      · rw [hset hdp] at hl
        rw [if_neg hdp]
        exact (Fs.getD d (FactR.any row)).st _ _ _ (hI.each d hd hdp hl) (hFp _ _ _ hf)
      · simp at hl
      · rw [if_pos rfl]
        exact hf
    · have hE := Each.get (hstep vs) i o (by rw [List.getElem?_take, if_pos hi]; simpa using ho)
      rw [Nat.zero_add] at hE
      have h1 := hE hip w (hI.grown hFp) hdeps
      have key : ∀ v w', Below w.heap.size w w' → (Fs.getD i (FactR.any row)).p v w' → OnceInv Fs Fp n p w0 (fun j => if j = i then true else L j) (fun j => if j = i then v else vs j) w' := by
        intro v w' hb hf
        refine ⟨fun d hd hdp hl => ?_, fun hl => ?_, fun hl => ?_⟩
        · by_cases hdi : d = i
          · subst hdi
            rw [if_pos rfl]
            exact hf
          · rw [hset hdi] at hl
            rw [if_neg hdi]
            exact (Fs.getD d (FactR.any row)).st _ _ _ (hI.each d hd hdp hl) ((grown_of_below hb).but row)
        · rw [hset (Ne.symm hip)] at hl
          exact up_later (hI.before hl) hb
        · rw [hset (Ne.symm hip)] at hl
          obtain ⟨wt, w1, a1, a2, a3⟩ := hI.behind hl
          exact ⟨wt, w1, a1, by rw [if_neg (Ne.symm hip)]; exact a2, up_later a3 hb⟩
      split
      · rename_i hw
        rw [if_pos hw] at h1
        exact h1.mono fun v w' ⟨hb, hf⟩ => key v w' hb hf
      · rename_i hw
        rw [if_neg hw] at h1
        exact key undef w (Below.refl _ _) h1
  · have hAA : putAll (fun _ => true) vs 0 (l.toArray.toList.take n) a0 = A vs := hA vs
    rw [hAA]
    obtain ⟨wt, w1, h1, h2, h3⟩ := hI.behind (hall p hpn)
    exact htail vs wt w1 w h1 h2 h3 fun d hd hdp => hI.each d hd hdp (hall d hd)

/-- What an append to a slice of the caller's own gives: n elements, xs; the slice was z. -/
def Fresh (n0 e sz : Nat) (z : Value) (n : Nat) (xs : List Value) (v : Value) (wt w1 : World) : Prop :=
  wt.grownBy w1 z.ownBlock ∧ w1.ownsRow n0 e sz v n xs ∧ (v.ownBlock = z.ownBlock ∨ v.ownBlock = some wt.heap.size)
theorem fresh_grown {n0 e sz : Nat} {z : Value} {n : Nat} {xs : List Value} : ∀ v a b, Fresh n0 e sz z n xs v a b → a.grownBy b z.ownBlock := fun _ _ _ h => h.1

end Go.Proofs.Ytojbdmdjepgpjaa
