/-
  PLAIN, no function of the program is named: a region that draws its order and fills blocks that it makes itself, each while other operations are still to come.
-/
import Derived.Test.YtojbdmdjepgpjaaNl
namespace Go.Proofs.Ytojbdmdjepgpjaa
open Go.RowKit

section
variable {P : Program} {ops : Array Oper} {md : Region.Mode} {Q : Exit → Act → World → Prop} {n : Nat} {a0 : Act}

theorem wpAny_inv (hB : factsB md ops n = true) (Inv : (Nat → Bool) → (Nat → Value) → World → Prop)
    (hstep : ∀ i o, i < n → ops[i]? = some o → ∀ (L : Nat → Bool) (vs : Nat → Value) (w : World), L i = false → (∀ d, d < n → leansOn ops o d = true → L d = true) → Inv L vs w →
      if Region.wanted o (yielded ops (putAll (fun _ => true) vs 0 (ops.toList.take n) a0).tmps) then Gives P o (putAll (fun _ => true) vs 0 (ops.toList.take n) a0) w (fun v w' => Inv (fun j => if j = i then true else L j) (fun j => if j = i then v else vs j) w')
      else Inv (fun j => if j = i then true else L j) (fun j => if j = i then undef else vs j) w)
    (htail : ∀ (L : Nat → Bool) (vs : Nat → Value) (w : World), (∀ d, d < n → L d = true) → Inv L vs w → wpList P ops Q (ops.toList.drop n) (putAll (fun _ => true) vs 0 (ops.toList.take n) a0) w) :
    ∀ (fuel : Nat) (listed : Array Bool) (vs : Nat → Value) (w : World), HeadInv md ops n listed → unl n listed = fuel → Inv (fun i => listed.getD i false) vs w →
      wpAny P md ops Q (fuel + (ops.size - n)) listed (putAll (fun i => listed.getD i false) vs 0 (ops.toList.take n) a0) w := by
  simp only [factsB, Bool.and_eq_true, decide_eq_true_eq, Bool.or_eq_true] at hB
  obtain ⟨⟨⟨⟨⟨hsel, hal⟩, hn⟩, hw8⟩, htl⟩, hseq⟩ := hB
  intro fuel
  induction fuel with
  | zero =>
    intro listed vs w inv hu hI
    have hall : ∀ d, d < n → listed.getD d false = true := unl_zero hu
    have hlist : listed = Array.replicate n true ++ Array.replicate (ops.size - n) false := by
      apply Array.ext
      · simp [inv.size]; omega
      · intro i h1 h2
        by_cases hi : i < n
        · have := hall i hi
          simp [h1] at this
          rw [this]
          simp [hi]
        · have := inv.tail i (by omega) (by rw [← inv.size]; exact h1)
          simp [h1] at this
          rw [this]
          simp [Array.getElem_append, hi]
    have hput : putAll (fun i => listed.getD i false) vs 0 (ops.toList.take n) a0 = putAll (fun _ => true) vs 0 (ops.toList.take n) a0 := by
      have hg : ∀ (l : List Oper) (k : Nat) (a : Act), k + l.length ≤ n → putAll (fun i => listed.getD i false) vs k l a = putAll (fun _ => true) vs k l a := by
        intro l
        induction l with
        | nil => intro k a _; rfl
        | cons o r ih =>
          intro k a hk
          simp only [List.length_cons] at hk
          simp only [putAll, hall k (by omega), if_true]
          exact ih (k + 1) _ (by omega)
      exact hg _ 0 a0 (by simp; omega)
    rw [hput, Nat.zero_add]
    have hd : (ops.toList.drop n).length = ops.size - n := by simp
    have := wpAny_of_seq (md := md) (Q' := Q) (P := P) (ops.toList.drop n) n listed (putAll (fun _ => true) vs 0 (ops.toList.take n) a0) w (fun j => by simp [List.getElem?_drop]) (by rw [hd, hlist]; exact hseq)
      (htail _ vs w hall hI)
    rwa [hd] at this
  | succ fuel ih =>
    intro listed vs w inv hu hI
    rw [show fuel + 1 + (ops.size - n) = (fuel + (ops.size - n)) + 1 by omega]
    -- an unlisted one of the first
    have hex : ∃ i, i < n ∧ listed.getD i false = false := by
      rcases Classical.em (∃ i, i < n ∧ listed.getD i false = false) with h | h
      · exact h
      · exfalso
        have : unl n listed = 0 := List.countP_eq_zero.2 fun i hi => by
          cases hl : listed.getD i false with
          | true => simp
          | false => exact absurd ⟨i, List.mem_range.1 hi, hl⟩ h
        omega
    have hop : ∀ i, i < n → ∃ o, ops[i]? = some o ∧ (∀ d, d < n → leansOn ops o d = true → Region.waitsFor md ops i d = true) ∧ (∀ e ∈ o.after, Region.binds md e = true → e.on < i) := by
      intro i hi
      have h1 := List.all_eq_true.1 hw8 i (List.mem_range.2 hi)
      cases ho : ops[i]? with
      | none => rw [ho] at h1; cases h1
      | some o =>
        rw [ho] at h1
        simp only [Bool.and_eq_true] at h1
        refine ⟨o, rfl, fun d hd hl => ?_, fun e he hb => ?_⟩
        · have h2 := List.all_eq_true.1 h1.1 d (List.mem_range.2 hd)
          simp [hl] at h2
          exact h2
        · have h2 := Array.all_eq_true_iff_forall_mem.1 h1.2 e he
          simp [hb] at h2
          exact h2
    have hready : ∃ i, i ∈ Region.ready md ops listed := by
      have hleast : ∀ (k i : Nat), i ≤ k → i < n → listed.getD i false = false → ∃ j, j < n ∧ listed.getD j false = false ∧ ∀ m, m < j → listed.getD m false = true := by
        intro k
        induction k with
        | zero => intro i hik hi h; exact ⟨i, hi, h, fun m hm => by omega⟩
        | succ k ihk =>
          intro i hik hi h
          rcases Classical.em (∃ m, m < i ∧ listed.getD m false = false) with ⟨m, hm, hm'⟩ | hno
          · exact ihk m (by omega) (by omega) hm'
          · exact ⟨i, hi, h, fun m hm => by
              cases hl : listed.getD m false with
              | true => rfl
              | false => exact absurd ⟨m, hm, hl⟩ hno⟩
      obtain ⟨i, hi, hl⟩ := hex
      obtain ⟨j, hj, hjl, hjm⟩ := hleast i i (Nat.le_refl _) hi hl
      obtain ⟨o, ho, _, hb⟩ := hop j hj
      exact ⟨j, mem_ready.2 ⟨getD_in (by rw [inv.size]; omega) hjl, o, ho, fun e he hbe => hjm _ (hb e he hbe)⟩⟩
    refine ⟨fun h0 => (by obtain ⟨i, hi⟩ := hready; rw [h0] at hi; cases hi), fun i hi => ?_⟩
    have hin : i < n := by
      rcases Nat.lt_or_ge i n with h | h
      · exact h
      · exfalso
        obtain ⟨k, hk, hkl⟩ := hex
        obtain ⟨_, oi, hoi, _⟩ := mem_ready.1 hi
        have hlt : i < ops.size := (Array.getElem?_eq_some_iff.1 hoi).1
        rcases htl with he | ⟨hs, hc⟩
        · omega
        · exact tail_waits hs hc (by omega) inv _ k rfl hk (getD_in (by rw [inv.size]; omega) hkl) i h hi
    have hil : listed.getD i false = false := getD_both (mem_ready.1 hi).1
    obtain ⟨o, ho, hdep, _⟩ := hop i hin
    obtain ⟨_, o', ho', hafter⟩ := mem_ready.1 hi
    have hoo : o' = o := Option.some.inj (ho'.symm.trans ho)
    subst hoo
    have hdl : ∀ d, d < n → leansOn ops o' d = true → listed.getD d false = true := by
      intro d hd hl
      obtain ⟨oj, hoj, e, he, hb, hon⟩ := Region.waitsFor_spec (hdep d hd hl)
      have : oj = o' := Option.some.inj (hoj.symm.trans ho)
      subst this
      rw [← hon]
      exact hafter e he hb
    have hagree : Agree (o'.looksAt ops) (putAll (fun i => listed.getD i false) vs 0 (ops.toList.take n) a0) (putAll (fun _ => true) vs 0 (ops.toList.take n) a0) := by
      refine Agree.putAll _ 0 a0 a0 ⟨rfl, fun _ _ => rfl⟩ fun j oj hj hjl d hdst hmem => ?_
      rw [Nat.zero_add] at hjl
      have hj2 : ops[j]? = some oj ∧ j < n := by
        rw [List.getElem?_take] at hj
        split at hj
        · rename_i hlt; exact ⟨by simpa using hj, hlt⟩
        · cases hj
      have := hdl j hj2.2 (by unfold leansOn; rw [hj2.1]; simp [hdst, hmem])
      rw [this] at hjl
      cases hjl
    have hst := hstep i o' hin ho (fun i => listed.getD i false) vs w hil hdl hI
    have htake : (ops.toList.take n)[i]? = some o' := by rw [List.getElem?_take, if_pos hin]; simpa using ho
    have hnext : ∀ v w', Inv (fun j => if j = i then true else listed.getD j false) (fun j => if j = i then v else vs j) w' → wpAny P md ops Q (fuel + (ops.size - n)) (listed.setIfInBounds i true) ((putAll (fun i => listed.getD i false) vs 0 (ops.toList.take n) a0).put o'.dst v) w' := by
      intro v w' hI'
      have hset := putAll_set (sel := fun i => listed.getD i false) (vs := vs) v (ops.toList.take n) 0 i a0 o' hal htake (by simpa using hil)
      simp only [Nat.zero_add] at hset
      rw [← hset]
      have hsize : i < listed.size := by rw [inv.size]; omega
      have hfun : (fun j => if j = i then true else listed.getD j false) = fun j => (listed.setIfInBounds i true).getD j false := by
        funext j
        by_cases hji : j = i
        · subst hji; simp [hsize]
        · rw [if_neg hji, getD_set_ne false (Ne.symm hji)]
      rw [hfun]
      refine ih (listed.setIfInBounds i true) (fun j => if j = i then v else vs j) w' (inv.set hi hin) (by have := unl_set hin hsize hil; omega) ?_
      rw [← hfun]
      exact hI'
    unfold wpOp
    rw [ho]
    simp only
    rw [hagree.wanted]
    split
    · rename_i hw
      rw [if_pos hw] at hst
      exact .inl (Gives.wp (hagree.exec fun cs c => Region.noSelect_spec hsel i o' cs c ho) hst fun v w' h => hnext v w' h)
    · rename_i hw
      rw [if_neg hw] at hst
      exact hnext undef w hst

end

/-- What an operation hands back: a value; a new block, which holds z, and f when it has been filled; or nothing: it fills the block of operation p. -/
inductive Let
  | val (c : Value)
  | box (t : TypeId) (z f : Array Value)
  | put (p : Nat)
def Let.isBox : Let → Bool
  | .box .. => true
  | _ => false
def Let.fills : Let → Option Nat
  | .put p => some p
  | _ => none
abbrev letAt (Ks : List Let) (i : Nat) : Let := Ks.getD i (.val undef)
/-- What the kernel looks at: which of the operations make blocks, and which fill them. -/
def letsB (ops : Array Oper) (n : Nat) (bx : List Bool) (pt : List (Option Nat)) : Bool :=
  (List.range n).all fun i => match pt.getD i none with
    | some p => decide (p < n) && bx.getD p false && (match ops[i]? with | some o => leansOn ops o p | none => false) && (List.range n).all fun j => pt.getD j none != some p || j == i
    | none => true
def filled (Ks : List Let) (n : Nat) (L : Nat → Bool) (p : Nat) : Bool := (List.range n).any fun i => L i && (letAt Ks i).fills == some p
def Let.holds (full : Bool) (B : Nat) (w : World) (v : Value) : Let → Prop
  | .val c => v = c
  | .box t z f => ∃ g, v = .pointer (some ⟨g, 0, none⟩) ∧ B ≤ g ∧ g < w.heap.size ∧ Box w g t (if full then f else z)
  | .put _ => True
structure LetInv (Ks : List Let) (n : Nat) (w0 : World) (L : Nat → Bool) (vs : Nat → Value) (w : World) : Prop where
  below : Below w0.heap.size w0 w
  clo : ∀ i p, i < n → L i = true → (letAt Ks i).fills = some p → L p = true
  each : ∀ i, i < n → L i = true → (letAt Ks i).holds (filled Ks n L i) w0.heap.size w (vs i)
  apart : ∀ i j, i < n → j < n → i ≠ j → L i = true → L j = true → (letAt Ks i).isBox = true → (letAt Ks j).isBox = true → blk (vs i) ≠ blk (vs j)
def Let.dep (B : Nat) (w : World) (v : Value) : Let → Prop
  | .val c => v = c
  | .box _ _ _ => ∃ g, v = .pointer (some ⟨g, 0, none⟩) ∧ B ≤ g ∧ g < w.heap.size
  | .put _ => True
/-- Block g alone has turned, and holds f. -/
def Fill (g : Nat) (t : TypeId) (f : Array Value) (w w' : World) : Prop := w.grownBy w' (some g) ∧ w'.heap.size = w.heap.size ∧ Box w' g t f
theorem Gives.mono {P : Program} {o : Oper} {a : Act} {w : World} {K K' : Value → World → Prop} (h : Gives P o a w K) (hK : ∀ v w', K v w' → K' v w') : Gives P o a w K' := by
  unfold Gives at h ⊢
  generalize (execOp a.eval o).run P w = r at *
  cases r with
  | ok n w' =>
    cases n <;> simp only [gives] at h ⊢
    case value v => exact hK _ _ h
    case skip => exact hK _ _ h
    case enter f args => exact h.mono fun e w'' ⟨v, he, hk⟩ => ⟨v, he, hK _ _ hk⟩
  | halt x w' => simp only [gives] at h
def GotVal (c : Value) (w : World) (v : Value) (w' : World) : Prop := v = c ∧ w' = w
def GotBox (t : TypeId) (z : Array Value) (w : World) (v : Value) (w' : World) : Prop := v = .pointer (some ⟨w.heap.size, 0, none⟩) ∧ w' = w.alloc (.cells z t)
def StepLet (P : Program) (ops : Array Oper) (n : Nat) (Ks : List Let) (w0 : World) (a : Act) (vs : Nat → Value) (i : Nat) (o : Oper) : Prop :=
  ∀ w : World, Below w0.heap.size w0 w → (∀ d, d < n → leansOn ops o d = true → (letAt Ks d).dep w0.heap.size w (vs d)) →
    match letAt Ks i with
    | .val c => if Region.wanted o (yielded ops a.tmps) = true then Gives P o a w (GotVal c w) else undef = c
    | .box t z _ => Region.wanted o (yielded ops a.tmps) = true ∧ Gives P o a w (GotBox t z w)
    | .put p => Region.wanted o (yielded ops a.tmps) = true ∧ match letAt Ks p with
      | .box t z f => ∀ g, vs p = .pointer (some ⟨g, 0, none⟩) → Box w g t z → Gives P o a w (fun _ w' => Fill g t f w w')
      | _ => False

theorem map_fills (Ks : List Let) (i : Nat) : (Ks.map Let.fills).getD i none = (letAt Ks i).fills := by
  simp only [letAt, List.getD_eq_getElem?_getD, List.getElem?_map]
  cases Ks[i]? <;> rfl
theorem map_isBox (Ks : List Let) (i : Nat) : (Ks.map Let.isBox).getD i false = (letAt Ks i).isBox := by
  simp only [letAt, List.getD_eq_getElem?_getD, List.getElem?_map]
  cases Ks[i]? <;> rfl
theorem letsB_spec {ops : Array Oper} {n : Nat} {Ks : List Let} (h : letsB ops n (Ks.map Let.isBox) (Ks.map Let.fills) = true) {i p : Nat} {o : Oper} (hi : i < n) (ho : ops[i]? = some o) (hp : (letAt Ks i).fills = some p) :
    p < n ∧ (letAt Ks p).isBox = true ∧ leansOn ops o p = true ∧ ∀ j, j < n → (letAt Ks j).fills = some p → j = i := by
  have h1 := List.all_eq_true.1 h i (List.mem_range.2 hi)
  rw [map_fills, hp] at h1
  simp only [ho, Bool.and_eq_true, decide_eq_true_eq, map_isBox, List.all_eq_true, List.mem_range, map_fills, Bool.or_eq_true, bne_iff_ne, ne_eq, beq_iff_eq] at h1
  exact ⟨h1.1.1.1, h1.1.1.2, h1.1.2, fun j hj hf => (h1.2 j hj).elim (fun h => absurd hf h) id⟩
theorem filled_set {Ks : List Let} {n : Nat} {L : Nat → Bool} {i p : Nat} (hL : L i = false) (hp : (letAt Ks i).fills ≠ some p) : filled Ks n (fun j => if j = i then true else L j) p = filled Ks n L p := by
  unfold filled
  have : ∀ j, ((if j = i then true else L j) && (letAt Ks j).fills == some p) = (L j && (letAt Ks j).fills == some p) := by
    intro j
    by_cases hj : j = i
    · subst hj
      have : ((letAt Ks j).fills == some p) = false := by rw [beq_eq_false_iff_ne]; exact hp
      rw [this, Bool.and_false, Bool.and_false]
    · rw [if_neg hj]
  simp only [this]
theorem filled_yes {Ks : List Let} {n : Nat} {L : Nat → Bool} {i p : Nat} (hi : i < n) (hL : L i = true) (hp : (letAt Ks i).fills = some p) : filled Ks n L p = true :=
  List.any_eq_true.2 ⟨i, List.mem_range.2 hi, by rw [hL, hp]; simp⟩
theorem filled_no {Ks : List Let} {n : Nat} {L : Nat → Bool} {p : Nat} (h : ∀ j, j < n → L j = true → (letAt Ks j).fills ≠ some p) : filled Ks n L p = false := by
  cases hf : filled Ks n L p with
  | false => rfl
  | true =>
    obtain ⟨j, hj, hh⟩ := List.any_eq_true.1 hf
    rw [Bool.and_eq_true, beq_iff_eq] at hh
    exact absurd hh.2 (h j (List.mem_range.1 hj) hh.1)
theorem Let.holds_dep {k : Let} {full : Bool} {B : Nat} {w : World} {v : Value} (h : k.holds full B w v) : k.dep B w v := by
  cases k with
  | val c => exact h
  | box t z f => obtain ⟨g, h1, h2, h3, _⟩ := h; exact ⟨g, h1, h2, h3⟩
  | put p => trivial
theorem Let.holds_later {k : Let} {full : Bool} {B : Nat} {w w' : World} {v : Value} (h : k.holds full B w v) (hs : w.heap.size ≤ w'.heap.size) (hb : k.isBox = true → ∀ g, g = blk v → g < w.heap.size → w'.heap[g]? = w.heap[g]?) : k.holds full B w' v := by
  cases k with
  | val c => exact h
  | box t z f =>
    obtain ⟨g, h1, h2, h3, h4⟩ := h
    exact ⟨g, h1, h2, by omega, (hb rfl g (by rw [h1]; rfl) h3).trans h4⟩
  | put p => trivial

/-- **A region that draws its order and fills blocks of its own.** -/
theorem wp_region_lets {P : Program} {id : Nat} {Q : Exit → Act → World → Prop} {a0 : Act} {w0 : World} {l : List Oper} (n : Nat) (Ks : List Let) (A : (Nat → Value) → Act)
    (hm : P.follows .mixedOrders = true) (hB : factsB .any l.toArray n = true) (hK : letsB l.toArray n (Ks.map Let.isBox) (Ks.map Let.fills) = true) (hA : ∀ vs, putAll (fun _ => true) vs 0 (l.take n) a0 = A vs)
    (hstep : ∀ (vs : Nat → Value), Each (StepLet P l.toArray n Ks w0 (A vs) vs) 0 (l.take n))
    (htail : ∀ (vs : Nat → Value) (w : World), Below w0.heap.size w0 w → (∀ i, i < n → (letAt Ks i).holds (filled Ks n (fun _ => true) i) w0.heap.size w (vs i)) → (∀ i j, i < n → j < n → i ≠ j → (letAt Ks i).isBox = true → (letAt Ks j).isBox = true → blk (vs i) ≠ blk (vs j)) → wpList P l.toArray Q (l.drop n) (A vs) w) :
    (Code.region id l.toArray true).wp P Q a0 w0 := by
  refine wp_region_any hm ?_
  have hn : n ≤ l.toArray.size := by
    simp only [factsB, Bool.and_eq_true, decide_eq_true_eq] at hB
    exact hB.1.1.1.2
  have inv0 : HeadInv .any l.toArray n (Array.replicate l.toArray.size false) :=
    ⟨by simp, fun j oj _ hl => (by rw [getD_replicate_false] at hl; cases hl), fun t _ ht => getD_in (by simpa using ht) (getD_replicate_false _ _)⟩
  have hun : unl n (Array.replicate l.toArray.size false) = n := by
    unfold unl
    rw [List.countP_eq_length.2]
    · simp
    · intro i _; rw [getD_replicate_false]; rfl
  have hput : putAll (fun i => (Array.replicate l.toArray.size false).getD i false) (fun _ => undef) 0 (l.take n) a0 = a0 := by
    have hg : ∀ (l' : List Oper) (k : Nat) (a : Act), putAll (fun i => (Array.replicate l.toArray.size false).getD i false) (fun _ => undef) k l' a = a := by
      intro l'
      induction l' with
      | nil => intro k a; rfl
      | cons o r ih => intro k a; unfold putAll; rw [getD_replicate_false, if_neg (by simp)]; exact ih _ _
    exact hg _ _ _
  have h0 : LetInv Ks n w0 (fun i => (Array.replicate l.toArray.size false).getD i false) (fun _ => undef) w0.drew :=
    ⟨(Below.refl _ _).drew, (fun i p _ h _ => by simp only [getD_replicate_false] at h; cases h), (fun i _ h => by simp only [getD_replicate_false] at h; cases h), (fun i j _ _ _ h _ _ _ => by simp only [getD_replicate_false] at h; cases h)⟩
  have := wpAny_inv (P := P) (md := .any) (ops := l.toArray) (Q := Q) (n := n) (a0 := a0) hB (LetInv Ks n w0) (fun i o hi ho L vs w hLi hdep hI => ?_) (fun L vs w hall hI => ?_) n (Array.replicate l.toArray.size false) (fun _ => undef) w0.drew inv0 hun h0
  · rw [hput, show n + (l.toArray.size - n) = l.toArray.size by omega] at this
    exact this
  · have hE := Each.get (hstep vs) i o (by rw [List.getElem?_take, if_pos hi]; simpa using ho)
    rw [Nat.zero_add] at hE
    have hd := hE w hI.below (fun d hd hl => Let.holds_dep (hI.each d hd (hdep d hd hl)))
    have hAA : putAll (fun _ => true) vs 0 (l.toArray.toList.take n) a0 = A vs := hA vs
    rw [hAA]
    have hset : ∀ {j : Nat}, j ≠ i → (if j = i then true else L j) = L j := fun h => if_neg h
    cases hk : letAt Ks i with
    | val c =>
      rw [hk] at hd
      have hfi : ∀ p, (letAt Ks i).fills ≠ some p := fun p h => by rw [hk] at h; cases h
      have hnb : (letAt Ks i).isBox = false := by rw [hk]; rfl
      have new : ∀ v, v = c → LetInv Ks n w0 (fun j => if j = i then true else L j) (fun j => if j = i then v else vs j) w := by
        intro v hv
        refine ⟨hI.below, fun j p hj hl hf => ?_, fun j hj hl => ?_, fun j j' hj hj' hne hl hl' hb hb' => ?_⟩
        · by_cases hji : j = i
          · subst hji; exact absurd hf (hfi p)
          · rw [hset hji] at hl
            have hp := hI.clo j p hj hl hf
            by_cases hpi : p = i
            · rw [if_pos hpi]
            · rw [if_neg hpi]; exact hp
        · by_cases hji : j = i
          · subst hji
            rw [if_pos rfl, hk]
            exact hv
          · rw [hset hji] at hl
            rw [if_neg hji, filled_set hLi (hfi j)]
            exact hI.each j hj hl
        · have hji : j ≠ i := fun e => by subst e; rw [hnb] at hb; cases hb
          have hji' : j' ≠ i := fun e => by subst e; rw [hnb] at hb'; cases hb'
          rw [hset hji] at hl
          rw [hset hji'] at hl'
          rw [if_neg hji, if_neg hji']
          exact hI.apart j j' hj hj' hne hl hl' hb hb'
      split
      · rename_i hw
        simp only [hw, if_true] at hd
        exact hd.mono fun v w' ⟨hv, hw'⟩ => by subst hw'; exact new v hv
      · rename_i hw
        simp only [hw] at hd
        exact new undef hd
    | box t z f =>
      rw [hk] at hd
      have hfi : ∀ p, (letAt Ks i).fills ≠ some p := fun p h => by rw [hk] at h; cases h
      rw [if_pos hd.1]
      refine hd.2.mono fun v w' ⟨hv, hw'⟩ => ?_
      subst hv
      subst hw'
      have hno : filled Ks n (fun j => if j = i then true else L j) i = false := by
        rw [filled_set hLi (hfi i)]
        refine filled_no fun j hj hl hf => ?_
        have := hI.clo j i hj hl hf
        rw [hLi] at this
        cases this
      refine ⟨hI.below.alloc hI.below.size _, fun j p hj hl hf => ?_, fun j hj hl => ?_, fun j j' hj hj' hne hl hl' hb hb' => ?_⟩
      · by_cases hji : j = i
        · subst hji; exact absurd hf (hfi p)
        · rw [hset hji] at hl
          have hp := hI.clo j p hj hl hf
          by_cases hpi : p = i
          · rw [if_pos hpi]
          · rw [if_neg hpi]; exact hp
      · by_cases hji : j = i
        · subst hji
          rw [if_pos rfl, hk, hno]
          exact ⟨w.heap.size, rfl, hI.below.size, by simp, Box.new rfl⟩
        · rw [hset hji] at hl
          rw [if_neg hji, filled_set hLi (hfi j)]
          exact Let.holds_later (hI.each j hj hl) (by simp) fun _ g _ hlt => Below.heap_alloc w _ g hlt
      · have fresh : ∀ d, d < n → L d = true → (letAt Ks d).isBox = true → blk (vs d) < w.heap.size := fun d hd hl hb => by
          have := hI.each d hd hl
          cases hkd : letAt Ks d with
          | box t' z' f' => rw [hkd] at this; obtain ⟨g, h1, _, h3, _⟩ := this; rw [h1]; exact h3
          | val c => rw [hkd] at hb; cases hb
          | put p => rw [hkd] at hb; cases hb
        by_cases hji : j = i
        · by_cases hji' : j' = i
          · omega
          · rw [hset hji'] at hl'
            rw [if_pos hji, if_neg hji']
            have := fresh j' hj' hl' hb'
            show w.heap.size ≠ blk (vs j')
            omega
        · rw [hset hji] at hl
          by_cases hji' : j' = i
          · rw [if_neg hji, if_pos hji']
            have := fresh j hj hl hb
            show blk (vs j) ≠ w.heap.size
            omega
          · rw [hset hji'] at hl'
            rw [if_neg hji, if_neg hji']
            exact hI.apart j j' hj hj' hne hl hl' hb hb'
    | put p =>
      rw [hk] at hd
      obtain ⟨hpn, hpb, hpl, hun1⟩ := letsB_spec hK hi ho (by rw [hk]; rfl)
      have hLp := hdep p hpn hpl
      have hEp := hI.each p hpn hLp
      have hno : filled Ks n L p = false := filled_no fun j hj hl hf => by
        have := hun1 j hj hf
        subst this
        rw [hLi] at hl
        cases hl
      cases hkp : letAt Ks p with
      | val c => rw [hkp] at hpb; cases hpb
      | put q => rw [hkp] at hpb; cases hpb
      | box t z f =>
        dsimp only at hd
        rw [hkp] at hd hEp
        rw [hno] at hEp
        obtain ⟨g, hg1, hg2, hg3, hg4⟩ := hEp
        rw [if_pos hd.1]
        refine (hd.2 g hg1 hg4).mono fun v w' ⟨hgr, hsz, hbx⟩ => ?_
        have hpi : p ≠ i := fun e => by subst e; rw [hkp] at hk; cases hk
        refine ⟨hI.below.grown hgr hI.below.size (fun k hk' => by cases hk'; exact hg2), fun j q hj hl hf => ?_, fun j hj hl => ?_, fun j j' hj hj' hne hl hl' hb hb' => ?_⟩
        · by_cases hji : j = i
          · subst hji
            rw [hk] at hf
            cases hf
            rw [if_neg hpi]
            exact hLp
          · rw [hset hji] at hl
            have hq := hI.clo j q hj hl hf
            by_cases hqi : q = i
            · rw [if_pos hqi]
            · rw [if_neg hqi]; exact hq
        · by_cases hji : j = i
          · subst hji
            rw [hk]
            trivial
          · rw [hset hji] at hl
            rw [if_neg hji]
            by_cases hjp : j = p
            · subst hjp
              rw [hkp, filled_yes (i := i) hi (by rw [if_pos rfl]) (by rw [hk]; rfl)]
              exact ⟨g, hg1, hg2, by omega, hbx⟩
            · rw [filled_set hLi (by rw [hk]; intro e; cases e; exact hjp rfl)]
              refine Let.holds_later (hI.each j hj hl) (by omega) fun hjb k hk' hlt => hgr.block k hlt fun e => ?_
              cases e
              have := hI.apart j p hj hpn hjp hl hLp hjb hpb
              rw [hg1] at this
              exact this hk'.symm
        · have hji : j ≠ i := fun e => by subst e; rw [hk] at hb; cases hb
          have hji' : j' ≠ i := fun e => by subst e; rw [hk] at hb'; cases hb'
          rw [hset hji] at hl
          rw [hset hji'] at hl'
          rw [if_neg hji, if_neg hji']
          exact hI.apart j j' hj hj' hne hl hl' hb hb'
  · have hAA : putAll (fun _ => true) vs 0 (l.toArray.toList.take n) a0 = A vs := hA vs
    rw [hAA]
    refine htail vs w hI.below (fun i hi => ?_) (fun i j hi hj hij hb hb' => hI.apart i j hi hj hij (hall i hi) (hall j hj) hb hb')
    have hf : filled Ks n (fun _ => true) i = filled Ks n L i := by
      unfold filled
      rw [Bool.eq_iff_iff, List.any_eq_true, List.any_eq_true]
      constructor
      · rintro ⟨j, hj, h⟩; exact ⟨j, hj, by rw [hall j (List.mem_range.1 hj)]; exact h⟩
      · rintro ⟨j, hj, h⟩; exact ⟨j, hj, by rw [Bool.and_eq_true] at h ⊢; exact ⟨rfl, h.2⟩⟩
    rw [hf]
    exact hI.each i hi (hall i hi)

section
variable {w : World} {g : Nat} {t : TypeId}
theorem grownBy_put (w : World) (b i : Nat) (v : Value) : w.grownBy (w.setCell ⟨b, i, none⟩ v) (some b) :=
  ⟨rfl, rfl, rfl, by simp [World.setCell], fun k _ hk => Below.heap_setCell _ ⟨b, i, none⟩ _ k (fun e => hk (by rw [e]))⟩
theorem fill1 {a0 u0 : Value} (h : Box w g t #[a0]) : Fill g t #[u0] w (w.setCell ⟨g, 0, none⟩ u0) := ⟨grownBy_put _ _ _ _, by simp [World.setCell], h.put1⟩
theorem fill3 {a0 a1 a2 u0 u1 u2 : Value} (h : Box w g t #[a0, a1, a2]) : Fill g t #[u0, u1, u2] w (((w.setCell ⟨g, 0, none⟩ u0).setCell ⟨g, 1, none⟩ u1).setCell ⟨g, 2, none⟩ u2) :=
  ⟨((grownBy_put _ _ _ _).trans (grownBy_put _ _ _ _)).trans (grownBy_put _ _ _ _), by simp [World.setCell], h.put3⟩
theorem fill4 {a0 a1 a2 a3 u0 u1 u2 u3 : Value} (h : Box w g t #[a0, a1, a2, a3]) : Fill g t #[u0, u1, u2, u3] w ((((w.setCell ⟨g, 0, none⟩ u0).setCell ⟨g, 1, none⟩ u1).setCell ⟨g, 2, none⟩ u2).setCell ⟨g, 3, none⟩ u3) :=
  ⟨(((grownBy_put _ _ _ _).trans (grownBy_put _ _ _ _)).trans (grownBy_put _ _ _ _)).trans (grownBy_put _ _ _ _), by simp [World.setCell], h.put4⟩
end

end Go.Proofs.Ytojbdmdjepgpjaa
