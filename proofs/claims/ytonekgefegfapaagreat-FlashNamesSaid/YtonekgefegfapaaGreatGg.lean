/-
  PLAIN: a region that draws its order, whose operation p spoils some of the facts; the texts that can have been sent, as a plain search; what it knows of memory.
-/
import Derived.Test.YtonekgefegfapaaGreatGf
import Derived.Test.YtonekgefegfapaaGreatVn
namespace Go.Proofs.YtonekgefegfapaaGreat
open Go.RowKit

section
variable {P : Program} {ops : Array Oper} {md : Region.Mode} {Q : Exit → Act → World → Prop} {n : Nat} {a0 : Act}
theorem wpAny_inv2 (hB : factsB md ops n = true) (Inv : (Nat → Bool) → (Nat → Value) → World → Prop)
    (hstep : ∀ i o, i < n → ops[i]? = some o → ∀ (L : Nat → Bool) (vs : Nat → Value) (w : World), L i = false → (∀ d, d < n → leansOn ops o d = true → L d = true) → (∀ d, d < n → Region.waitsFor md ops i d = true → L d = true) → Inv L vs w →
      if Region.wanted o (yielded ops (putAll (fun _ => true) vs 0 (ops.toList.take n) a0).tmps) then Gives P o (putAll (fun _ => true) vs 0 (ops.toList.take n) a0) w (fun v w' => Inv (fun j => if j = i then true else L j) (fun j => if j = i then v else vs j) w')
      else Inv (fun j => if j = i then true else L j) (fun j => if j = i then undef else vs j) w)
    (htail : ∀ (L : Nat → Bool) (vs : Nat → Value) (w : World), (∀ d, d < n → L d = true) → Inv L vs w → wpList P ops Q (ops.toList.drop n) (putAll (fun _ => true) vs 0 (ops.toList.take n) a0) w) :
    ∀ (fuel : Nat) (listed : Array Bool) (vs : Nat → Value) (w : World), HeadInv md ops n listed → unl n listed = fuel → Inv (fun i => listed.getD i false) vs w →
      wpAny P md ops Q (fuel + (ops.size - n)) listed (putAll (fun i => listed.getD i false) vs 0 (ops.toList.take n) a0) w := by
  simp only [factsB, Bool.and_eq_true, decide_eq_true_eq, Bool.or_eq_true] at hB
  obtain ⟨⟨⟨⟨⟨hsel, hal⟩, hn⟩, hw8⟩, htl⟩, hseq⟩ := hB
  intro fuel
  induction fuel with
  | zero =>
    intro listed vs w inv hu hI
    have hall : ∀ d, d < n → listed.getD d false = true := unl_zero hu
    have hlist : listed = Array.replicate n true ++ Array.replicate (ops.size - n) false := by
      apply Array.ext
      · simp [inv.size]; omega
      · intro i h1 h2
        by_cases hi : i < n
        · have := hall i hi
          simp [h1] at this
          rw [this]
          simp [hi]
        · have := inv.tail i (by omega) (by rw [← inv.size]; exact h1)
          simp [h1] at this
          rw [this]
          simp [Array.getElem_append, hi]
    have hput : putAll (fun i => listed.getD i false) vs 0 (ops.toList.take n) a0 = putAll (fun _ => true) vs 0 (ops.toList.take n) a0 := by
      have hg : ∀ (l : List Oper) (k : Nat) (a : Act), k + l.length ≤ n → putAll (fun i => listed.getD i false) vs k l a = putAll (fun _ => true) vs k l a := by
        intro l
        induction l with
        | nil => intro k a _; rfl
        | cons o r ih =>
          intro k a hk
          simp only [List.length_cons] at hk
          simp only [putAll, hall k (by omega), if_true]
          exact ih (k + 1) _ (by omega)
      exact hg _ 0 a0 (by simp; omega)
    rw [hput, Nat.zero_add]
    have hd : (ops.toList.drop n).length = ops.size - n := by simp
    have := wpAny_of_seq (md := md) (Q' := Q) (P := P) (ops.toList.drop n) n listed (putAll (fun _ => true) vs 0 (ops.toList.take n) a0) w (fun j => by simp [List.getElem?_drop]) (by rw [hd, hlist]; exact hseq)
      (htail _ vs w hall hI)
    rwa [hd] at this
  | succ fuel ih =>
    intro listed vs w inv hu hI
    rw [show fuel + 1 + (ops.size - n) = (fuel + (ops.size - n)) + 1 by omega]
    -- an unlisted one of the first
    have hex : ∃ i, i < n ∧ listed.getD i false = false := by
      rcases Classical.em (∃ i, i < n ∧ listed.getD i false = false) with h | h
      · exact h
      · exfalso
        have : unl n listed = 0 := List.countP_eq_zero.2 fun i hi => by
          cases hl : listed.getD i false with
          | true => simp
          | false => exact absurd ⟨i, List.mem_range.1 hi, hl⟩ h
        omega
    have hop : ∀ i, i < n → ∃ o, ops[i]? = some o ∧ (∀ d, d < n → leansOn ops o d = true → Region.waitsFor md ops i d = true) ∧ (∀ e ∈ o.after, Region.binds md e = true → e.on < i) := by
      intro i hi
      have h1 := List.all_eq_true.1 hw8 i (List.mem_range.2 hi)
      cases ho : ops[i]? with
      | none => rw [ho] at h1; cases h1
      | some o =>
        rw [ho] at h1
        simp only [Bool.and_eq_true] at h1
        refine ⟨o, rfl, fun d hd hl => ?_, fun e he hb => ?_⟩
        · have h2 := List.all_eq_true.1 h1.1 d (List.mem_range.2 hd)
          simp [hl] at h2
          exact h2
        · have h2 := Array.all_eq_true_iff_forall_mem.1 h1.2 e he
          simp [hb] at h2
          exact h2
    have hready : ∃ i, i ∈ Region.ready md ops listed := by
      have hleast : ∀ (k i : Nat), i ≤ k → i < n → listed.getD i false = false → ∃ j, j < n ∧ listed.getD j false = false ∧ ∀ m, m < j → listed.getD m false = true := by
        intro k
        induction k with
        | zero => intro i hik hi h; exact ⟨i, hi, h, fun m hm => by omega⟩
        | succ k ihk =>
          intro i hik hi h
          rcases Classical.em (∃ m, m < i ∧ listed.getD m false = false) with ⟨m, hm, hm'⟩ | hno
          · exact ihk m (by omega) (by omega) hm'
          · exact ⟨i, hi, h, fun m hm => by
              cases hl : listed.getD m false with
              | true => rfl
              | false => exact absurd ⟨m, hm, hl⟩ hno⟩
      obtain ⟨i, hi, hl⟩ := hex
      obtain ⟨j, hj, hjl, hjm⟩ := hleast i i (Nat.le_refl _) hi hl
      obtain ⟨o, ho, _, hb⟩ := hop j hj
      exact ⟨j, mem_ready.2 ⟨getD_in (by rw [inv.size]; omega) hjl, o, ho, fun e he hbe => hjm _ (hb e he hbe)⟩⟩
    refine ⟨fun h0 => (by obtain ⟨i, hi⟩ := hready; rw [h0] at hi; cases hi), fun i hi => ?_⟩
    have hin : i < n := by
      rcases Nat.lt_or_ge i n with h | h
      · exact h
      · exfalso
        obtain ⟨k, hk, hkl⟩ := hex
        obtain ⟨_, oi, hoi, _⟩ := mem_ready.1 hi
        have hlt : i < ops.size := (Array.getElem?_eq_some_iff.1 hoi).1
        rcases htl with he | ⟨hs, hc⟩
        · omega
        · exact tail_waits hs hc (by omega) inv _ k rfl hk (getD_in (by rw [inv.size]; omega) hkl) i h hi
    have hil : listed.getD i false = false := getD_both (mem_ready.1 hi).1
    obtain ⟨o, ho, hdep, _⟩ := hop i hin
    obtain ⟨_, o', ho', hafter⟩ := mem_ready.1 hi
    have hoo : o' = o := Option.some.inj (ho'.symm.trans ho)
    subst hoo
    have hdl : ∀ d, d < n → leansOn ops o' d = true → listed.getD d false = true := by
      intro d hd hl
      obtain ⟨oj, hoj, e, he, hb, hon⟩ := Region.waitsFor_spec (hdep d hd hl)
      have : oj = o' := Option.some.inj (hoj.symm.trans ho)
      subst this
      rw [← hon]
      exact hafter e he hb
    have hagree : Agree (o'.looksAt ops) (putAll (fun i => listed.getD i false) vs 0 (ops.toList.take n) a0) (putAll (fun _ => true) vs 0 (ops.toList.take n) a0) := by
      refine Agree.putAll _ 0 a0 a0 ⟨rfl, fun _ _ => rfl⟩ fun j oj hj hjl d hdst hmem => ?_
      rw [Nat.zero_add] at hjl
      have hj2 : ops[j]? = some oj ∧ j < n := by
        rw [List.getElem?_take] at hj
        split at hj
        · rename_i hlt; exact ⟨by simpa using hj, hlt⟩
        · cases hj
      have := hdl j hj2.2 (by unfold leansOn; rw [hj2.1]; simp [hdst, hmem])
      rw [this] at hjl
      cases hjl
    have hwl : ∀ d, d < n → Region.waitsFor md ops i d = true → listed.getD d false = true := by
      intro d hd hl
      obtain ⟨oj, hoj, e, he, hb, hon⟩ := Region.waitsFor_spec hl
      have : oj = o' := Option.some.inj (hoj.symm.trans ho)
      subst this
      rw [← hon]
      exact hafter e he hb
    have hst := hstep i o' hin ho (fun i => listed.getD i false) vs w hil hdl hwl hI
    have htake : (ops.toList.take n)[i]? = some o' := by rw [List.getElem?_take, if_pos hin]; simpa using ho
    have hnext : ∀ v w', Inv (fun j => if j = i then true else listed.getD j false) (fun j => if j = i then v else vs j) w' → wpAny P md ops Q (fuel + (ops.size - n)) (listed.setIfInBounds i true) ((putAll (fun i => listed.getD i false) vs 0 (ops.toList.take n) a0).put o'.dst v) w' := by
      intro v w' hI'
      have hset := putAll_set (sel := fun i => listed.getD i false) (vs := vs) v (ops.toList.take n) 0 i a0 o' hal htake (by simpa using hil)
      simp only [Nat.zero_add] at hset
      rw [← hset]
      have hsize : i < listed.size := by rw [inv.size]; omega
      have hfun : (fun j => if j = i then true else listed.getD j false) = fun j => (listed.setIfInBounds i true).getD j false := by
        funext j
        by_cases hji : j = i
        · subst hji; simp [hsize]
        · rw [if_neg hji, getD_set_ne false (Ne.symm hji)]
      rw [hfun]
      refine ih (listed.setIfInBounds i true) (fun j => if j = i then v else vs j) w' (inv.set hi hin) (by have := unl_set hin hsize hil; omega) ?_
      rw [← hfun]
      exact hI'
    unfold wpOp
    rw [ho]
    simp only
    rw [hagree.wanted]
    split
    · rename_i hw
      rw [if_pos hw] at hst
      exact .inl (Gives.wp (hagree.exec fun cs c => Region.noSelect_spec hsel i o' cs c ho) hst fun v w' h => hnext v w' h)
    · rename_i hw
      rw [if_neg hw] at hst
      exact hnext undef w hst
end

structure FactK where
  p : Value → World → Prop
  st : ∀ v w w', p v w → Below w.heap.size w w' → p v w'
  free : Bool
  fr : free = true → ∀ v w w', p v w → p v w'
def FactK.eq (c : Value) : FactK := ⟨fun v _ => v = c, fun _ _ _ h _ => h, true, fun _ _ _ _ h => h⟩
def FactK.any : FactK := ⟨fun _ _ => True, fun _ _ _ _ _ => trivial, true, fun _ _ _ _ _ => trivial⟩
def FactK.sl (n0 len t : Nat) (cs : Array Value) : FactK := ⟨fun v w => ∃ g, v = .slice (some ⟨g, 0, none⟩) len len ∧ Box w g t cs ∧ n0 ≤ g, fun _ _ _ ⟨g, h, h1, h2⟩ hb => ⟨g, h, h1.kept hb, h2⟩, false, fun h => by cases h⟩
def FactK.own (n0 e sz n : Nat) (xs : List Value) : FactK := ⟨fun v w => ∃ A m p, v = .slice A m p ∧ w.ownsRow n0 e sz (.slice A m p) n xs, fun _ _ _ ⟨A, m, p, h, h1⟩ hb => ⟨A, m, p, h, own_below h1 hb⟩, false, fun h => by cases h⟩

structure KillInv (ops : Array Oper) (Fs : List FactK) (n p : Nat) (kill : Nat → Bool) (w0 : World) (L : Nat → Bool) (vs : Nat → Value) (w : World) : Prop where
  below : Below w0.heap.size w0 w
  each : ∀ d, d < n → L d = true → (L p = true → kill d = false) → (Fs.getD d FactK.any).p (vs d) w
  waits : L p = true → ∀ d, d < n → Region.waitsFor .any ops p d = true → L d = true
def leansAt (ops : Array Oper) (i d : Nat) : Bool := match ops[i]? with | some o => leansOn ops o d | none => false
def killB (ops : Array Oper) (n p : Nat) (kill : Nat → Bool) : Bool :=
  decide (p < n) && !kill p && (List.range n).all fun i => (List.range n).all fun d => !kill d || i == p || !leansAt ops i d || Region.waitsFor .any ops p i

/-- **A region that draws its order, whose operation p spoils some of the facts.** -/
theorem wp_region_kill {P : Program} {id : Nat} {Q : Exit → Act → World → Prop} {a0 : Act} {w0 : World} {l : List Oper} (n p : Nat) (kill : Nat → Bool) (Fs : List FactK) (A : (Nat → Value) → Act)
    (hm : P.follows .mixedOrders = true) (hB : factsB .any l.toArray n = true) (hk : killB l.toArray n p kill = true) (hfree : ((List.range n).all fun d => d == p || kill d || (Fs.getD d FactK.any).free) = true) (hA : ∀ vs, putAll (fun _ => true) vs 0 (l.take n) a0 = A vs)
    (hstep : ∀ (vs : Nat → Value), Each (fun i o => i ≠ p → ∀ w : World, Below w0.heap.size w0 w → (∀ d, d < n → leansOn l.toArray o d = true → (Fs.getD d FactK.any).p (vs d) w) →
      Region.wanted o (yielded l.toArray (A vs).tmps) = true ∧ Gives P o (A vs) w (fun v w' => Below w.heap.size w w' ∧ (Fs.getD i FactK.any).p v w')) 0 (l.take n))
    (hp : ∀ (vs : Nat → Value) (o : Oper), l[p]? = some o → ∀ w : World, Below w0.heap.size w0 w → (∀ d, d < n → leansOn l.toArray o d = true → (Fs.getD d FactK.any).p (vs d) w) →
      Region.wanted o (yielded l.toArray (A vs).tmps) = true ∧ Gives P o (A vs) w (fun v w' => Below w0.heap.size w0 w' ∧ (Fs.getD p FactK.any).p v w'))
    (htail : ∀ (vs : Nat → Value) (w : World), Below w0.heap.size w0 w → (∀ d, d < n → kill d = false → (Fs.getD d FactK.any).p (vs d) w) → wpList P l.toArray Q (l.drop n) (A vs) w) :
    (Code.region id l.toArray true).wp P Q a0 w0 := by
  refine wp_region_any hm ?_
  have hn : n ≤ l.toArray.size := by
    simp only [factsB, Bool.and_eq_true, decide_eq_true_eq] at hB
    exact hB.1.1.1.2
  simp only [killB, Bool.and_eq_true, decide_eq_true_eq, Bool.not_eq_true'] at hk
  obtain ⟨⟨hpn, hkp⟩, hk3⟩ := hk
  have inv0 : HeadInv .any l.toArray n (Array.replicate l.toArray.size false) :=
    ⟨by simp, fun j oj _ hl => (by rw [getD_replicate_false] at hl; cases hl), fun t _ ht => getD_in (by simpa using ht) (getD_replicate_false _ _)⟩
  have hun : unl n (Array.replicate l.toArray.size false) = n := by
    unfold unl
    rw [List.countP_eq_length.2]
    · simp
    · intro i _; rw [getD_replicate_false]; rfl
  have hput : putAll (fun i => (Array.replicate l.toArray.size false).getD i false) (fun _ => undef) 0 (l.take n) a0 = a0 := by
    have hg : ∀ (l' : List Oper) (k : Nat) (a : Act), putAll (fun i => (Array.replicate l.toArray.size false).getD i false) (fun _ => undef) k l' a = a := by
      intro l'
      induction l' with
      | nil => intro k a; rfl
      | cons o r ih => intro k a; unfold putAll; rw [getD_replicate_false, if_neg (by simp)]; exact ih _ _
    exact hg _ _ _
  have h0 : KillInv l.toArray Fs n p kill w0 (fun i => (Array.replicate l.toArray.size false).getD i false) (fun _ => undef) w0.drew :=
    ⟨(Below.refl _ _).drew, (fun d _ h => by simp only [getD_replicate_false] at h; cases h), (fun h => by simp only [getD_replicate_false] at h; cases h)⟩
  have := wpAny_inv2 (P := P) (md := .any) (ops := l.toArray) (Q := Q) (n := n) (a0 := a0) hB (KillInv l.toArray Fs n p kill w0) (fun i o hi ho L vs w hLi hdep hwait hI => ?_) (fun L vs w hall hI => ?_) n (Array.replicate l.toArray.size false) (fun _ => undef) w0.drew inv0 hun h0
  · rw [hput, show n + (l.toArray.size - n) = l.toArray.size by omega] at this
    exact this
  · have hAA : putAll (fun _ => true) vs 0 (l.toArray.toList.take n) a0 = A vs := hA vs
    rw [hAA]
    have hset : ∀ {j : Nat}, j ≠ i → (if j = i then true else L j) = L j := fun h => if_neg h
    have hdeps : ∀ d, d < n → leansOn l.toArray o d = true → (Fs.getD d FactK.any).p (vs d) w := fun d hd hl => by
      refine hI.each d hd (hdep d hd hl) fun hLp => ?_
      cases hkd : kill d with
      | false => rfl
      | true =>
        exfalso
        have h1 := List.all_eq_true.1 (List.all_eq_true.1 hk3 i (List.mem_range.2 hi)) d (List.mem_range.2 hd)
        have h2 : leansAt l.toArray i d = true := by unfold leansAt; rw [ho]; exact hl
        rw [hkd, h2] at h1
        simp only [Bool.not_true, Bool.false_or, Bool.or_false, Bool.or_eq_true, beq_iff_eq] at h1
        rcases h1 with h1 | h1
        · rw [h1] at hLi
          rw [hLi] at hLp
          cases hLp
        · have := hI.waits hLp i hi h1
          rw [hLi] at this
          cases this
    by_cases hip : i = p
    · subst hip
      have h1 := hp vs o (by simpa using ho) w hI.below hdeps
      rw [if_pos h1.1]
      refine h1.2.mono fun v w' ⟨hb, hf⟩ => ⟨hb, fun d hd hl hki => ?_, fun _ d hd hl => ?_⟩
      · by_cases hdi : d = i
        · subst hdi
          rw [if_pos rfl]
          exact hf
        · rw [hset hdi] at hl
          rw [if_neg hdi]
          have hfd := List.all_eq_true.1 hfree d (List.mem_range.2 hd)
          rw [hki (if_pos rfl)] at hfd
          simp only [Bool.or_false, Bool.or_eq_true, beq_iff_eq] at hfd
          exact (Fs.getD d FactK.any).fr (hfd.resolve_left hdi) _ _ _ (hI.each d hd hl fun h => by rw [hLi] at h; cases h)
      · by_cases hdi : d = i
        · rw [if_pos hdi]
        · rw [if_neg hdi]
          exact hwait d hd hl
    · have hE := Each.get (hstep vs) i o (by rw [List.getElem?_take, if_pos hi]; simpa using ho)
      rw [Nat.zero_add] at hE
      have h1 := hE hip w hI.below hdeps
      rw [if_pos h1.1]
      refine h1.2.mono fun v w' ⟨hb, hv⟩ => ⟨up_later hI.below hb, fun d hd hl hki => ?_, fun hl d hd hwf => ?_⟩
      · rw [hset (Ne.symm hip)] at hki
        by_cases hdi : d = i
        · subst hdi
          rw [if_pos rfl]
          exact hv
        · rw [hset hdi] at hl
          rw [if_neg hdi]
          exact (Fs.getD d FactK.any).st _ _ _ (hI.each d hd hl hki) hb
      · rw [hset (Ne.symm hip)] at hl
        by_cases hdi : d = i
        · rw [if_pos hdi]
        · rw [if_neg hdi]
          exact hI.waits hl d hd hwf
  · have hAA : putAll (fun _ => true) vs 0 (l.toArray.toList.take n) a0 = A vs := hA vs
    rw [hAA]
    exact htail vs w hI.below fun d hd hkd => hI.each d hd (hall d hd) fun _ => hkd

/-- A letter's signs behind a text. -/
def kidB (l : List ByteArray) (t : List Int) (i : Nat) : ByteArray := addS l i (t.length == 0)
/-- All texts that begin with t, found in depth first order: r is t's row; at most so many letters more. -/
def addF (l : List ByteArray) (R : By) (E : Nat) : Nat → List Int → List Nat → List (List Int)
  | 0, t, r => if r = hopeL 41 then [] else if r.getD R.length 120 ≠ 120 then [t] else []
  | f + 1, t, r => if r = hopeL 41 then [] else (if r.getD R.length 120 ≠ 120 then [t] else []) ++ (List.range l.length).flatMap fun i : Nat => addF l R E f (t ++ [(i : Int)]) (sendN (kidB l t i).data.toList R E r)
theorem addF_len (l : List ByteArray) (hl : l.length ≤ 6) (R : By) (E : Nat) : ∀ (f : Nat) (t : List Int) (r : List Nat), (addF l R E f t r).length ≤ 7 ^ f
  | 0, t, r => by
    unfold addF
    split
    · simp
    · split <;> simp
  | f + 1, t, r => by
    have ih := addF_len l hl R E f
    have h1 : ∀ n, ((List.range n).flatMap fun i : Nat => addF l R E f (t ++ [(i : Int)]) (sendN (kidB l t i).data.toList R E r)).length ≤ n * 7 ^ f := by
      intro n
      induction n with
      | zero => simp
      | succ n ihn =>
        rw [List.range_succ, List.flatMap_append, List.length_append]
        have := ih (t ++ [(n : Int)]) (sendN (kidB l t n).data.toList R E r)
        simp only [List.flatMap_cons, List.flatMap_nil, List.append_nil]
        rw [Nat.succ_mul]
        omega
    have h2 := h1 l.length
    have h3 : l.length * 7 ^ f ≤ 6 * 7 ^ f := Nat.mul_le_mul_right _ hl
    have h4 : 1 ≤ 7 ^ f := Nat.one_le_pow _ _ (by decide)
    have h5 : 7 ^ (f + 1) = 7 * 7 ^ f := by rw [Nat.pow_succ, Nat.mul_comm]
    unfold addF
    split
    · simp
    · rw [List.length_append]
      have h6 : (if r.getD R.length 120 ≠ 120 then [t] else []).length ≤ 1 := by split <;> simp
      omega
/-- Nothing but found's box, and lists of texts of the call's own, has turned. -/
structure AddK (B gF : Nat) (W W' : World) : Prop where
  os : W'.os = W.os
  tape : W'.tape = W.tape
  output : W'.output = W.output
  size : W.heap.size ≤ W'.heap.size
  block : ∀ k o, W.heap[k]? = some o → k ≠ gF → (B ≤ k → ∀ cs fr, o ≠ .cells cs 25 fr) → W'.heap[k]? = some o
section
variable {B gF : Nat} {W W' W2 : World}
theorem AddK.refl (W : World) : AddK B gF W W := ⟨rfl, rfl, rfl, Nat.le_refl _, fun _ _ h _ _ => h⟩
theorem AddK.trans (h : AddK B gF W W') (k : AddK B gF W' W2) : AddK B gF W W2 :=
  ⟨k.os.trans h.os, k.tape.trans h.tape, k.output.trans h.output, Nat.le_trans h.size k.size, fun i o ho h1 h2 => k.block i o (h.block i o ho h1 h2) h1 h2⟩
theorem AddK.of_below (h : Below W.heap.size W W') : AddK B gF W W' := ⟨h.os, h.tape, h.output, h.size, fun k _ ho _ _ => (h.block k (Array.getElem?_eq_some_iff.1 ho).1).trans ho⟩
theorem AddK.box {g t : Nat} {cs : Array Value} (h : AddK B gF W W') (hb : Box W g t cs) (ht : t ≠ 25) (hg : g ≠ gF) : Box W' g t cs := h.block g _ hb hg fun _ cs' fr e => by
  injection e with _ e _
  exact ht e
theorem AddK.own {b e sz n : Nat} {v : Value} {xs : List Value} (h : AddK B gF W W') (ho : W.ownsRow b e sz v n xs) (he : e ≠ 25) (hg : ∀ cs fr, W.heap[gF]? ≠ some (.cells cs e fr)) : W'.ownsRow b e sz v n xs := by
  refine ⟨ho.1, ?_⟩
  rcases ho.2 with hn | ⟨g, cap, cur, rfl, hb, hgg, rest⟩
  · exact .inl hn
  · refine .inr ⟨g, cap, cur, rfl, hb, h.block g _ hgg (fun e1 => hg cur (0, 0) (e1 ▸ hgg)) fun _ cs' fr e1 => ?_, rest⟩
    injection e1 with _ e1 _
    exact he e1
theorem AddK.rows {α : Type} {v : Value} {sz : Nat} {cells : α → List Value} {l : List α} (h : AddK B gF W W') (hB : B ≤ gF) {w : World} (hwB : w.heap.size ≤ B) (hr : RowsAt w v sz cells l) (hbw : Below w.heap.size w W) : RowsAt W' v sz cells l := by
  refine hr.kept ⟨h.os.trans hbw.os, h.tape.trans hbw.tape, h.output.trans hbw.output, Nat.le_trans hbw.size h.size, fun k hk => ?_⟩
  have h1 := hbw.block k hk
  obtain ⟨o, ho⟩ : ∃ o, w.heap[k]? = some o := ⟨_, Array.getElem?_eq_getElem hk⟩
  rw [ho] at h1 ⊢
  exact h.block k o h1 (by omega) (fun hBk => by omega)
theorem AddK.below {w : World} (h : AddK B gF W W') (hB : B ≤ gF) (hwB : w.heap.size ≤ B) (hbw : Below w.heap.size w W) : Below w.heap.size w W' := by
  refine ⟨h.os.trans hbw.os, h.tape.trans hbw.tape, h.output.trans hbw.output, Nat.le_trans hbw.size h.size, fun k hk => ?_⟩
  have h1 := hbw.block k hk
  obtain ⟨o, ho⟩ : ∃ o, w.heap[k]? = some o := ⟨_, Array.getElem?_eq_getElem hk⟩
  rw [ho] at h1 ⊢
  exact h.block k o h1 (by omega) (fun hBk => by omega)
end
/-- The texts found so far. -/
def Fnd (B gF : Nat) (W : World) (fs : List (List Int)) : Prop := ∃ (vF : Value) (vs : List Value), Box W gF 50 #[vF] ∧ W.ownsRow B 25 1 vF fs.length vs ∧
  ∀ (i : Nat) (v : Value) (t : List Int), vs[i]? = some v → fs[i]? = some t → W.ownsRow B 3 1 v t.length (t.map fun x => iv x)
theorem Fnd.kept {B gF : Nat} {W W' : World} {fs : List (List Int)} (h : Fnd B gF W fs) (hb : Below W.heap.size W W') : Fnd B gF W' fs := by
  obtain ⟨vF, vs, h1, h2, h3⟩ := h
  exact ⟨vF, vs, h1.kept hb, own_below h2 hb, fun i v t hv ht => own_below (h3 i v t hv ht) hb⟩
theorem box_no {w : World} {g t e : Nat} {cs : Array Value} (h : Box w g t cs) (hte : t ≠ e) : ∀ cs' fr, w.heap[g]? ≠ some (.cells cs' e fr) := fun cs' fr h' => by
  rw [show w.heap[g]? = _ from h] at h'
  injection h' with h'
  injection h' with _ h' _
  exact hte h'
theorem run_eql_row {P : Program} (w : World) (t e : TypeId) (n : Nat) (ht : P.underlying t = some (.array n e)) (he : P.underlying e = some (.int .i64)) (hsz : ∀ w, (sizeOf e).run P w = .ok 1 w)
    (xs ys : List Nat) (hx : xs.length = n) (hy : ys.length = n) :
    (binOp .eql t (.agg (rowC xs)) (.agg (rowC ys))).run P w = .ok (.bool (xs == ys)) w := by
  have hall : ∀ (xs ys : List Nat), xs.length = ys.length → ((List.range xs.length).all fun i => xs.getD i 0 == ys.getD i 0) = (xs == ys) := by
    intro xs
    induction xs with
    | nil => intro ys h; cases ys with
      | nil => rfl
      | cons y ys => simp at h
    | cons x xs ih => intro ys h; cases ys with
      | nil => simp at h
      | cons y ys =>
        have ih' := ih ys (by simpa using h)
        rw [List.length_cons, List.range_succ_eq_map, List.all_cons, List.all_map]
        simp only [List.getD_cons_zero, Function.comp_def, List.getD_cons_succ, ih']
        simp [List.cons_beq_cons]
  rw [run_eql_struct]
  have hq : (Op.equalIn 10000 t (.agg (rowC xs)) (.agg (rowC ys))).run P w = .ok (xs == ys) w := by
    rw [← hall xs ys (hx.trans hy.symm), hx, List.range_eq_range', Op.equalIn]
    simp only [Sem.run_bind, run_underlying ht, Result.andThen_ok, hsz, Std.Legacy.Range.forIn_eq_forIn_range', Std.Legacy.Range.size, Nat.sub_zero, Nat.add_sub_cancel, Nat.div_one]
    have hl : ∀ i ∈ List.range' 0 n 1, i < n := fun i hi => by simpa using (List.mem_range'_1.1 hi).2
    generalize List.range' 0 n 1 = l at hl ⊢
    induction l with
    | nil => simp
    | cons i l ih =>
      have hi : i < n := hl i (by simp)
      have px : (part e (rowC xs) (i * 1)).run P w = .ok (iv (xs.getD i 0 : Nat)) w := by
        simp [part, isAgg, run_underlying he, rowC_get, List.getD, List.getElem?_eq_getElem (show i < xs.length by omega)]
      have py : (part e (rowC ys) (i * 1)).run P w = .ok (iv (ys.getD i 0 : Nat)) w := by
        simp [part, isAgg, run_underlying he, rowC_get, List.getD, List.getElem?_eq_getElem (show i < ys.length by omega)]
      have pe : (Op.equalIn 9999 e (iv (xs.getD i 0 : Nat)) (iv (ys.getD i 0 : Nat))).run P w = .ok (xs.getD i 0 == ys.getD i 0) w := by
        rw [run_equalIn_int w 9998 e .i64 .i64 _ _ he]
        congr 1
        rw [Bool.eq_iff_iff]
        simp
        omega
      simp only [List.forIn_cons, Sem.run_bind, px, py, pe, Result.andThen_ok, List.all_cons]
      cases hb : (xs.getD i 0 == ys.getD i 0)
      · simp
      · simp only [Bool.not_true, Bool.false_eq_true, if_false, Sem.run_pure, Result.andThen_ok, Bool.true_and]
        exact ih fun j hj => hl j (by simp [hj])
  rw [hq]
  rfl
end Go.Proofs.YtonekgefegfapaaGreat
