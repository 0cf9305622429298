/-
  PLAIN, no function of the program is named: a region that draws its order, one of whose operations writes into one old block.
-/
import Derived.Test.YtonekgefegfapaaGreatCp
import Derived.Maps.RangeWalk
namespace Go.Proofs.YtonekgefegfapaaGreat
open Go.RowKit

section
variable {P : Program} {ops : Array Oper} {md : Region.Mode} {Q : Exit → Act → World → Prop} {n : Nat} {a0 : Act}

theorem wpAny_inv (hB : factsB md ops n = true) (Inv : (Nat → Bool) → (Nat → Value) → World → Prop)
    (hstep : ∀ i o, i < n → ops[i]? = some o → ∀ (L : Nat → Bool) (vs : Nat → Value) (w : World), L i = false → (∀ d, d < n → leansOn ops o d = true → L d = true) → Inv L vs w →
      if Region.wanted o (yielded ops (putAll (fun _ => true) vs 0 (ops.toList.take n) a0).tmps) then Gives P o (putAll (fun _ => true) vs 0 (ops.toList.take n) a0) w (fun v w' => Inv (fun j => if j = i then true else L j) (fun j => if j = i then v else vs j) w')
      else Inv (fun j => if j = i then true else L j) (fun j => if j = i then undef else vs j) w)
    (htail : ∀ (L : Nat → Bool) (vs : Nat → Value) (w : World), (∀ d, d < n → L d = true) → Inv L vs w → wpList P ops Q (ops.toList.drop n) (putAll (fun _ => true) vs 0 (ops.toList.take n) a0) w) :
    ∀ (fuel : Nat) (listed : Array Bool) (vs : Nat → Value) (w : World), HeadInv md ops n listed → unl n listed = fuel → Inv (fun i => listed.getD i false) vs w →
      wpAny P md ops Q (fuel + (ops.size - n)) listed (putAll (fun i => listed.getD i false) vs 0 (ops.toList.take n) a0) w := by
  simp only [factsB, Bool.and_eq_true, decide_eq_true_eq, Bool.or_eq_true] at hB
  obtain ⟨⟨⟨⟨⟨hsel, hal⟩, hn⟩, hw8⟩, htl⟩, hseq⟩ := hB
  intro fuel
  induction fuel with
  | zero =>
    intro listed vs w inv hu hI
    have hall : ∀ d, d < n → listed.getD d false = true := unl_zero hu
    have hlist : listed = Array.replicate n true ++ Array.replicate (ops.size - n) false := by
      apply Array.ext
      · simp [inv.size]; omega
      · intro i h1 h2
        by_cases hi : i < n
        · have := hall i hi
          simp [h1] at this
          rw [this]
          simp [hi]
        · have := inv.tail i (by omega) (by rw [← inv.size]; exact h1)
          simp [h1] at this
          rw [this]
          simp [Array.getElem_append, hi]
    have hput : putAll (fun i => listed.getD i false) vs 0 (ops.toList.take n) a0 = putAll (fun _ => true) vs 0 (ops.toList.take n) a0 := by
      have hg : ∀ (l : List Oper) (k : Nat) (a : Act), k + l.length ≤ n → putAll (fun i => listed.getD i false) vs k l a = putAll (fun _ => true) vs k l a := by
        intro l
        induction l with
        | nil => intro k a _; rfl
        | cons o r ih =>
          intro k a hk
          simp only [List.length_cons] at hk
          simp only [putAll, hall k (by omega), if_true]
          exact ih (k + 1) _ (by omega)
      exact hg _ 0 a0 (by simp; omega)
    rw [hput, Nat.zero_add]
    have hd : (ops.toList.drop n).length = ops.size - n := by simp
    have := wpAny_of_seq (md := md) (Q' := Q) (P := P) (ops.toList.drop n) n listed (putAll (fun _ => true) vs 0 (ops.toList.take n) a0) w (fun j => by simp [List.getElem?_drop]) (by rw [hd, hlist]; exact hseq)
      (htail _ vs w hall hI)
    rwa [hd] at this
  | succ fuel ih =>
    intro listed vs w inv hu hI
    rw [show fuel + 1 + (ops.size - n) = (fuel + (ops.size - n)) + 1 by omega]
    -- an unlisted one of the first
    have hex : ∃ i, i < n ∧ listed.getD i false = false := by
      rcases Classical.em (∃ i, i < n ∧ listed.getD i false = false) with h | h
      · exact h
      · exfalso
        have : unl n listed = 0 := List.countP_eq_zero.2 fun i hi => by
          cases hl : listed.getD i false with
          | true => simp
          | false => exact absurd ⟨i, List.mem_range.1 hi, hl⟩ h
        omega
    have hop : ∀ i, i < n → ∃ o, ops[i]? = some o ∧ (∀ d, d < n → leansOn ops o d = true → Region.waitsFor md ops i d = true) ∧ (∀ e ∈ o.after, Region.binds md e = true → e.on < i) := by
      intro i hi
      have h1 := List.all_eq_true.1 hw8 i (List.mem_range.2 hi)
      cases ho : ops[i]? with
      | none => rw [ho] at h1; cases h1
      | some o =>
        rw [ho] at h1
        simp only [Bool.and_eq_true] at h1
        refine ⟨o, rfl, fun d hd hl => ?_, fun e he hb => ?_⟩
        · have h2 := List.all_eq_true.1 h1.1 d (List.mem_range.2 hd)
          simp [hl] at h2
          exact h2
        · have h2 := Array.all_eq_true_iff_forall_mem.1 h1.2 e he
          simp [hb] at h2
          exact h2
    have hready : ∃ i, i ∈ Region.ready md ops listed := by
      have hleast : ∀ (k i : Nat), i ≤ k → i < n → listed.getD i false = false → ∃ j, j < n ∧ listed.getD j false = false ∧ ∀ m, m < j → listed.getD m false = true := by
        intro k
        induction k with
        | zero => intro i hik hi h; exact ⟨i, hi, h, fun m hm => by omega⟩
        | succ k ihk =>
          intro i hik hi h
          rcases Classical.em (∃ m, m < i ∧ listed.getD m false = false) with ⟨m, hm, hm'⟩ | hno
          · exact ihk m (by omega) (by omega) hm'
          · exact ⟨i, hi, h, fun m hm => by
              cases hl : listed.getD m false with
              | true => rfl
              | false => exact absurd ⟨m, hm, hl⟩ hno⟩
      obtain ⟨i, hi, hl⟩ := hex
      obtain ⟨j, hj, hjl, hjm⟩ := hleast i i (Nat.le_refl _) hi hl
      obtain ⟨o, ho, _, hb⟩ := hop j hj
      exact ⟨j, mem_ready.2 ⟨getD_in (by rw [inv.size]; omega) hjl, o, ho, fun e he hbe => hjm _ (hb e he hbe)⟩⟩
    refine ⟨fun h0 => (by obtain ⟨i, hi⟩ := hready; rw [h0] at hi; cases hi), fun i hi => ?_⟩
    have hin : i < n := by
      rcases Nat.lt_or_ge i n with h | h
      · exact h
      · exfalso
        obtain ⟨k, hk, hkl⟩ := hex
        obtain ⟨_, oi, hoi, _⟩ := mem_ready.1 hi
        have hlt : i < ops.size := (Array.getElem?_eq_some_iff.1 hoi).1
        rcases htl with he | ⟨hs, hc⟩
        · omega
        · exact tail_waits hs hc (by omega) inv _ k rfl hk (getD_in (by rw [inv.size]; omega) hkl) i h hi
    have hil : listed.getD i false = false := getD_both (mem_ready.1 hi).1
    obtain ⟨o, ho, hdep, _⟩ := hop i hin
    obtain ⟨_, o', ho', hafter⟩ := mem_ready.1 hi
    have hoo : o' = o := Option.some.inj (ho'.symm.trans ho)
    subst hoo
    have hdl : ∀ d, d < n → leansOn ops o' d = true → listed.getD d false = true := by
      intro d hd hl
      obtain ⟨oj, hoj, e, he, hb, hon⟩ := Region.waitsFor_spec (hdep d hd hl)
      have : oj = o' := Option.some.inj (hoj.symm.trans ho)
      subst this
      rw [← hon]
      exact hafter e he hb
    have hagree : Agree (o'.looksAt ops) (putAll (fun i => listed.getD i false) vs 0 (ops.toList.take n) a0) (putAll (fun _ => true) vs 0 (ops.toList.take n) a0) := by
      refine Agree.putAll _ 0 a0 a0 ⟨rfl, fun _ _ => rfl⟩ fun j oj hj hjl d hdst hmem => ?_
      rw [Nat.zero_add] at hjl
      have hj2 : ops[j]? = some oj ∧ j < n := by
        rw [List.getElem?_take] at hj
        split at hj
        · rename_i hlt; exact ⟨by simpa using hj, hlt⟩
        · cases hj
      have := hdl j hj2.2 (by unfold leansOn; rw [hj2.1]; simp [hdst, hmem])
      rw [this] at hjl
      cases hjl
    have hst := hstep i o' hin ho (fun i => listed.getD i false) vs w hil hdl hI
    have htake : (ops.toList.take n)[i]? = some o' := by rw [List.getElem?_take, if_pos hin]; simpa using ho
    have hnext : ∀ v w', Inv (fun j => if j = i then true else listed.getD j false) (fun j => if j = i then v else vs j) w' → wpAny P md ops Q (fuel + (ops.size - n)) (listed.setIfInBounds i true) ((putAll (fun i => listed.getD i false) vs 0 (ops.toList.take n) a0).put o'.dst v) w' := by
      intro v w' hI'
      have hset := putAll_set (sel := fun i => listed.getD i false) (vs := vs) v (ops.toList.take n) 0 i a0 o' hal htake (by simpa using hil)
      simp only [Nat.zero_add] at hset
      rw [← hset]
      have hsize : i < listed.size := by rw [inv.size]; omega
      have hfun : (fun j => if j = i then true else listed.getD j false) = fun j => (listed.setIfInBounds i true).getD j false := by
        funext j
        by_cases hji : j = i
        · subst hji; simp [hsize]
        · rw [if_neg hji, getD_set_ne false (Ne.symm hji)]
      rw [hfun]
      refine ih (listed.setIfInBounds i true) (fun j => if j = i then v else vs j) w' (inv.set hi hin) (by have := unl_set hin hsize hil; omega) ?_
      rw [← hfun]
      exact hI'
    unfold wpOp
    rw [ho]
    simp only
    rw [hagree.wanted]
    split
    · rename_i hw
      rw [if_pos hw] at hst
      exact .inl (Gives.wp (hagree.exec fun cs c => Region.noSelect_spec hsel i o' cs c ho) hst fun v w' h => hnext v w' h)
    · rename_i hw
      rw [if_neg hw] at hst
      exact hnext undef w hst

end

theorem Gives.mono {P : Program} {o : Oper} {a : Act} {w : World} {K K' : Value → World → Prop} (h : Gives P o a w K) (hK : ∀ v w', K v w' → K' v w') : Gives P o a w K' := by
  unfold Gives at h ⊢
  generalize (execOp a.eval o).run P w = r at *
  cases r with
  | ok n w' =>
    cases n <;> simp only [gives] at h ⊢
    case value v => exact hK _ _ h
    case skip => exact hK _ _ h
    case enter f args => exact h.mono fun e w'' ⟨v, he, hk⟩ => ⟨v, he, hK _ _ hk⟩
  | halt x w' => simp only [gives] at h

/-- What is known of a value, and lasts whatever becomes of the block 'row'. -/
structure FactR (row : Option Nat) where
  p : Value → World → Prop
  st : ∀ v w w', p v w → w.grownBy w' row → p v w'
def FactR.eq (row : Option Nat) (c : Value) : FactR row := ⟨fun v _ => v = c, fun _ _ _ h _ => h⟩
def FactR.any (row : Option Nat) : FactR row := ⟨fun _ _ => True, fun _ _ _ _ _ => trivial⟩
def FactR.sl (row : Option Nat) (n : Nat) (t : TypeId) (cs : Array Value) : FactR row := ⟨fun v w => ∃ g, v = .slice (some ⟨g, 0, none⟩) n n ∧ Box w g t cs ∧ some g ≠ row, fun _ _ _ ⟨g, h, hb, hn⟩ hg => ⟨g, h, hb.grown hg hn, hn⟩⟩

section
variable {row : Option Nat} {Fs : List (FactR row)} {Fp : Value → World → World → Prop} {n p : Nat} {w0 w : World} {L : Nat → Bool} {vs : Nat → Value}
structure OnceInv (Fs : List (FactR row)) (Fp : Value → World → World → Prop) (n p : Nat) (w0 : World) (L : Nat → Bool) (vs : Nat → Value) (w : World) : Prop where
  each : ∀ d, d < n → d ≠ p → L d = true → (Fs.getD d (FactR.any row)).p (vs d) w
  before : L p = false → Below w0.heap.size w0 w
  behind : L p = true → ∃ wt w1, Below w0.heap.size w0 wt ∧ Fp (vs p) wt w1 ∧ Below w1.heap.size w1 w
theorem OnceInv.grown (hFp : ∀ v a b, Fp v a b → a.grownBy b row) (h : OnceInv Fs Fp n p w0 L vs w) : w0.grownBy w row := by
  cases hp : L p with
  | false => exact (grown_of_below (h.before hp)).but row
  | true =>
    obtain ⟨wt, w1, h1, h2, h3⟩ := h.behind hp
    exact ((grown_of_below h1).but row).trans ((hFp _ _ _ h2).trans ((grown_of_below h3).but row))
end

/-- **A region that draws its order, and appends once.** -/
theorem wp_region_once {P : Program} {id : Nat} {Q : Exit → Act → World → Prop} {a0 : Act} {w0 : World} {l : List Oper} (n p : Nat) (row : Option Nat) (Fs : List (FactR row)) (Fp : Value → World → World → Prop) (A : (Nat → Value) → Act)
    (hm : P.follows .mixedOrders = true) (hB : factsB .any l.toArray n = true) (hA : ∀ vs, putAll (fun _ => true) vs 0 (l.take n) a0 = A vs) (hpn : p < n) (hFp : ∀ v a b, Fp v a b → a.grownBy b row)
    (hstep : ∀ (vs : Nat → Value), Each (fun i o => i ≠ p → ∀ w : World, w0.grownBy w row → (∀ d, d < n → leansOn l.toArray o d = true → d ≠ p → (Fs.getD d (FactR.any row)).p (vs d) w) →
      if Region.wanted o (yielded l.toArray (A vs).tmps) = true then Gives P o (A vs) w (fun v w' => Below w.heap.size w w' ∧ (Fs.getD i (FactR.any row)).p v w') else (Fs.getD i (FactR.any row)).p undef w) 0 (l.take n))
    (hp : ∀ (vs : Nat → Value) (o : Oper), l[p]? = some o → ∀ w : World, Below w0.heap.size w0 w → (∀ d, d < n → leansOn l.toArray o d = true → d ≠ p → (Fs.getD d (FactR.any row)).p (vs d) w) →
      Region.wanted o (yielded l.toArray (A vs).tmps) = true ∧ Gives P o (A vs) w (fun v w' => Fp v w w'))
    (htail : ∀ (vs : Nat → Value) (wt w1 w : World), Below w0.heap.size w0 wt → Fp (vs p) wt w1 → Below w1.heap.size w1 w → (∀ d, d < n → d ≠ p → (Fs.getD d (FactR.any row)).p (vs d) w) → wpList P l.toArray Q (l.drop n) (A vs) w) :
    (Code.region id l.toArray true).wp P Q a0 w0 := by
  refine wp_region_any hm ?_
  have hn : n ≤ l.toArray.size := by
    simp only [factsB, Bool.and_eq_true, decide_eq_true_eq] at hB
    exact hB.1.1.1.2
  have inv0 : HeadInv .any l.toArray n (Array.replicate l.toArray.size false) :=
    ⟨by simp, fun j oj _ hl => (by rw [getD_replicate_false] at hl; cases hl), fun t _ ht => getD_in (by simpa using ht) (getD_replicate_false _ _)⟩
  have hun : unl n (Array.replicate l.toArray.size false) = n := by
    unfold unl
    rw [List.countP_eq_length.2]
    · simp
    · intro i _; rw [getD_replicate_false]; rfl
  have hput : putAll (fun i => (Array.replicate l.toArray.size false).getD i false) (fun _ => undef) 0 (l.take n) a0 = a0 := by
    have hg : ∀ (l' : List Oper) (k : Nat) (a : Act), putAll (fun i => (Array.replicate l.toArray.size false).getD i false) (fun _ => undef) k l' a = a := by
      intro l'
      induction l' with
      | nil => intro k a; rfl
      | cons o r ih => intro k a; unfold putAll; rw [getD_replicate_false, if_neg (by simp)]; exact ih _ _
    exact hg _ _ _
  have h0 : OnceInv Fs Fp n p w0 (fun i => (Array.replicate l.toArray.size false).getD i false) (fun _ => undef) w0.drew :=
    ⟨(fun d _ _ h => by simp only [getD_replicate_false] at h; cases h), (fun _ => (Below.refl _ _).drew), (fun h => by simp only [getD_replicate_false] at h; cases h)⟩
  have := wpAny_inv (P := P) (md := .any) (ops := l.toArray) (Q := Q) (n := n) (a0 := a0) hB (OnceInv Fs Fp n p w0) (fun i o hi ho L vs w hLi hdep hI => ?_) (fun L vs w hall hI => ?_) n (Array.replicate l.toArray.size false) (fun _ => undef) w0.drew inv0 hun h0
  · rw [hput, show n + (l.toArray.size - n) = l.toArray.size by omega] at this
    exact this
  · have hAA : putAll (fun _ => true) vs 0 (l.toArray.toList.take n) a0 = A vs := hA vs
    rw [hAA]
    have hdeps : ∀ d, d < n → leansOn l.toArray o d = true → d ≠ p → (Fs.getD d (FactR.any row)).p (vs d) w := fun d hd hl hdp => hI.each d hd hdp (hdep d hd hl)
    have hset : ∀ {j : Nat}, j ≠ i → (if j = i then true else L j) = L j := fun h => if_neg h
    by_cases hip : i = p
    · subst hip
      have h1 := hp vs o (by simpa using ho) w (hI.before hLi) hdeps
      rw [if_pos h1.1]
      refine h1.2.mono fun v w' hf => ⟨fun d hd hdp hl => ?_, fun hl => ?_, fun _ => ⟨w, w', hI.before hLi, ?_, Below.refl _ _⟩⟩
      · rw [hset hdp] at hl
        rw [if_neg hdp]
        exact (Fs.getD d (FactR.any row)).st _ _ _ (hI.each d hd hdp hl) (hFp _ _ _ hf)
      · simp at hl
      · rw [if_pos rfl]
        exact hf
    · have hE := Each.get (hstep vs) i o (by rw [List.getElem?_take, if_pos hi]; simpa using ho)
      rw [Nat.zero_add] at hE
      have h1 := hE hip w (hI.grown hFp) hdeps
      have key : ∀ v w', Below w.heap.size w w' → (Fs.getD i (FactR.any row)).p v w' → OnceInv Fs Fp n p w0 (fun j => if j = i then true else L j) (fun j => if j = i then v else vs j) w' := by
        intro v w' hb hf
        refine ⟨fun d hd hdp hl => ?_, fun hl => ?_, fun hl => ?_⟩
        · by_cases hdi : d = i
          · subst hdi
            rw [if_pos rfl]
            exact hf
          · rw [hset hdi] at hl
            rw [if_neg hdi]
            exact (Fs.getD d (FactR.any row)).st _ _ _ (hI.each d hd hdp hl) ((grown_of_below hb).but row)
        · rw [hset (Ne.symm hip)] at hl
          exact up_later (hI.before hl) hb
        · rw [hset (Ne.symm hip)] at hl
          obtain ⟨wt, w1, a1, a2, a3⟩ := hI.behind hl
          exact ⟨wt, w1, a1, by rw [if_neg (Ne.symm hip)]; exact a2, up_later a3 hb⟩
      split
      · rename_i hw
        rw [if_pos hw] at h1
        exact h1.mono fun v w' ⟨hb, hf⟩ => key v w' hb hf
      · rename_i hw
        rw [if_neg hw] at h1
        exact key undef w (Below.refl _ _) h1
  · have hAA : putAll (fun _ => true) vs 0 (l.toArray.toList.take n) a0 = A vs := hA vs
    rw [hAA]
    obtain ⟨wt, w1, h1, h2, h3⟩ := hI.behind (hall p hpn)
    exact htail vs wt w1 w h1 h2 h3 fun d hd hdp => hI.each d hd hdp (hall d hd)

/-- A new block, from block B on. -/
def FactR.box (row : Option Nat) (B : Nat) (t : TypeId) (cs : Array Value) : FactR row := ⟨fun v w => ∃ g, v = .pointer (some ⟨g, 0, none⟩) ∧ Box w g t cs ∧ some g ≠ row ∧ B ≤ g, fun _ _ _ ⟨g, h, hb, hn, hB⟩ hg => ⟨g, h, hb.grown hg hn, hn, hB⟩⟩

end Go.Proofs.YtonekgefegfapaaGreat
