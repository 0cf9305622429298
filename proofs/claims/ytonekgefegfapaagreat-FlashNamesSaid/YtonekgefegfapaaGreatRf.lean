/-
  PLAIN, no function of the program is named: a region that draws its order, walked by facts. Each of its first operations is shown once, by itself, in a frame in which all the others have come; what it hands back is known by a fact that lasts; the others follow in a forced order.
-/
import Derived.StillTail
import Derived.WalkKit
import Derived.Test.YtonekgefegfapaaGreatPl
namespace Go.Proofs.YtonekgefegfapaaGreat
open Go.RowKit

/-- What an operation that was carried out hands back, and the world it leaves. -/
def gives (P : Program) (K : Value → World → Prop) : Result Next → Prop
  | .ok (.value v) w' => K v w'
  | .ok .skip w' => K undef w'
  | .ok (.enter f args) w' => Calls P f args w' fun e w'' => ∃ v, e = .returned v ∧ K v w''
  | _ => False
def Gives (P : Program) (o : Oper) (a : Act) (w : World) (K : Value → World → Prop) : Prop := gives P K ((execOp a.eval o).run P w)

theorem Gives.wp {P : Program} {o : Oper} {a a' : Act} {w : World} {K : Value → World → Prop} {K' : Act → World → Prop} {Q : Exit → Act → World → Prop} (he : execOp a'.eval o = execOp a.eval o)
    (h : Gives P o a w K) (hK : ∀ v w', K v w' → K' (a'.put o.dst v) w') : o.wp P a' w K' Q := by
  unfold Gives at h
  unfold Oper.wp
  rw [he]
  generalize (execOp a.eval o).run P w = r at *
  cases r with
  | ok n w' =>
    cases n <;> simp only [gives] at h <;> simp only [Oper.upon]
    case value u => exact hK _ _ h
    case skip => exact hK _ _ h
    case enter f args => exact h.mono fun e w'' ⟨v, he, hk⟩ => by subst he; exact hK _ _ hk
  | halt x w' => simp only [gives] at h

/-- The values of the operations that 'sel' picks, put into their slots, in the text's order. -/
def putAll (sel : Nat → Bool) (vs : Nat → Value) : Nat → List Oper → Act → Act
  | _, [], a => a
  | i, o :: r, a => putAll sel vs (i + 1) r (if sel i then a.put o.dst (vs i) else a)

theorem putAll_congr {sel sel' : Nat → Bool} {vs vs' : Nat → Value} : ∀ (l : List Oper) (k : Nat) (a : Act), (∀ i, k ≤ i → sel i = sel' i) → (∀ i, k ≤ i → vs i = vs' i) → putAll sel vs k l a = putAll sel' vs' k l a
  | [], _, _, _, _ => rfl
  | o :: r, k, a, h1, h2 => by
    simp only [putAll, h1 k (Nat.le_refl _), h2 k (Nat.le_refl _)]
    exact putAll_congr r (k + 1) _ (fun i hi => h1 i (by omega)) (fun i hi => h2 i (by omega))

theorem putAll_put {sel : Nat → Bool} {vs : Nat → Value} {x : Option Tmp} (v : Value) : ∀ (l : List Oper) (k : Nat) (a : Act), (∀ o ∈ l, ∀ d, x = some d → o.dst ≠ some d) → putAll sel vs k l (a.put x v) = (putAll sel vs k l a).put x v
  | [], _, _, _ => rfl
  | o :: r, k, a, h => by
    have hr : ∀ o' ∈ r, ∀ d, x = some d → o'.dst ≠ some d := fun o' ho' => h o' (List.mem_cons_of_mem _ ho')
    simp only [putAll]
    cases sel k with
    | false => exact putAll_put v r (k + 1) a hr
    | true =>
      simp only [if_true]
      rw [Act.put_comm a v (vs k) (h o (List.mem_cons_self ..))]
      exact putAll_put v r (k + 1) _ hr

/-- No two operations write one slot. -/
def aloneB : List Oper → Bool
  | [] => true
  | o :: r => (match o.dst with | some d => r.all fun p => p.dst != some d | none => true) && aloneB r

theorem putAll_set {sel : Nat → Bool} {vs : Nat → Value} (v : Value) : ∀ (l : List Oper) (k j : Nat) (a : Act) (o : Oper), aloneB l = true → l[j]? = some o → sel (k + j) = false →
    putAll (fun i => if i = k + j then true else sel i) (fun i => if i = k + j then v else vs i) k l a = (putAll sel vs k l a).put o.dst v
  | [], _, _, _, _, _, h, _ => by simp at h
  | p :: r, k, 0, a, o, hd, h, hs => by
    have hpo : p = o := by simpa using h
    subst hpo
    have hs' : sel k = false := hs
    simp only [aloneB, Bool.and_eq_true] at hd
    simp only [putAll, Nat.add_zero, if_true, hs', Bool.false_eq_true, if_false]
    rw [putAll_congr (sel' := sel) (vs' := vs) r (k + 1) _ (fun i hi => if_neg (by omega)) (fun i hi => if_neg (by omega))]
    refine putAll_put v r (k + 1) a fun o' ho' d hdst heq => ?_
    have h1 := hd.1
    rw [hdst] at h1
    have h2 := List.all_eq_true.1 h1 o' ho'
    simp [heq] at h2
  | p :: r, k, j + 1, a, o, hd, h, hs => by
    simp only [aloneB, Bool.and_eq_true] at hd
    have e : k + (j + 1) = k + 1 + j := by omega
    simp only [putAll]
    rw [if_neg (show ¬ k = k + (j + 1) by omega), if_neg (show ¬ k = k + (j + 1) by omega), e]
    exact putAll_set v r (k + 1) j _ o hd.2 (by simpa using h) (by rw [← e]; exact hs)

/-- Two frames hold the same in the slots T. -/
def Agree (T : List Tmp) (a b : Act) : Prop := a.tmps.size = b.tmps.size ∧ ∀ t ∈ T, a.tmps[t]? = b.tmps[t]?

theorem Agree.both {T : List Tmp} {a b : Act} (h : Agree T a b) (x : Option Tmp) (v : Value) : Agree T (a.put x v) (b.put x v) := by
  cases x with
  | none => exact h
  | some d =>
    refine ⟨by simp [Act.put, h.1], fun t ht => ?_⟩
    simp only [Act.put, Array.getElem?_setIfInBounds, h.1]
    split
    · rfl
    · exact h.2 t ht
theorem Agree.right {T : List Tmp} {a b : Act} (h : Agree T a b) {x : Option Tmp} (v : Value) (hx : ∀ d, x = some d → d ∉ T) : Agree T a (b.put x v) := by
  cases x with
  | none => exact h
  | some d =>
    refine ⟨by simp [Act.put, h.1], fun t ht => ?_⟩
    have hne : d ≠ t := fun e => hx d rfl (e ▸ ht)
    simp only [Act.put, Array.getElem?_setIfInBounds_ne hne]
    exact h.2 t ht

theorem Agree.putAll {T : List Tmp} {sel : Nat → Bool} {vs : Nat → Value} : ∀ (l : List Oper) (k : Nat) (a b : Act), Agree T a b → (∀ j o, l[j]? = some o → sel (k + j) = false → ∀ d, o.dst = some d → d ∉ T) →
    Agree T (putAll sel vs k l a) (Go.Proofs.YtonekgefegfapaaGreat.putAll (fun _ => true) vs k l b)
  | [], _, _, _, h, _ => h
  | o :: r, k, a, b, h, hs => by
    have hr : ∀ j o', r[j]? = some o' → sel (k + 1 + j) = false → ∀ d, o'.dst = some d → d ∉ T := fun j o' hj hsj => hs (j + 1) o' (by simpa using hj) (by rw [show k + (j + 1) = k + 1 + j by omega]; exact hsj)
    simp only [Go.Proofs.YtonekgefegfapaaGreat.putAll]
    cases hk : sel k with
    | true => exact Agree.putAll r (k + 1) _ _ (h.both _ _) hr
    | false => exact Agree.putAll r (k + 1) _ _ (h.right _ (hs 0 o rfl (by simpa using hk))) hr

theorem Agree.exec {ops : Array Oper} {o : Oper} {a b : Act} (h : Agree (o.looksAt ops) a b) (hs : ∀ cs c, o.op ≠ .select cs c) : execOp a.eval o = execOp b.eval o :=
  execOp_congr o hs fun x hx => by
    cases x with
    | tmp t =>
      have ht : t ∈ o.looksAt ops := List.mem_append_left _ (List.mem_filterMap.2 ⟨.tmp t, by simpa using hx, rfl⟩)
      have := h.2 t ht
      simp only [Act.eval, Array.getD_eq_getD_getElem?, this]
    | _ => rfl
theorem Agree.wanted {ops : Array Oper} {o : Oper} {a b : Act} (h : Agree (o.looksAt ops) a b) : Region.wanted o (yielded ops a.tmps) = Region.wanted o (yielded ops b.tmps) := by
  unfold Region.wanted
  cases hg : o.guard with
  | none => rfl
  | some gw =>
    obtain ⟨g, want⟩ := gw
    have hy : yielded ops a.tmps g = yielded ops b.tmps g := by
      unfold yielded
      cases ht : (ops[g]?).bind (·.dst) with
      | none => rfl
      | some t =>
        have := h.2 t (by simp [Oper.looksAt, hg, ht])
        simp only [Option.bind_some, this]
    simp only [hy]

/-- Operation o reads what operation number d writes. -/
def leansOn (ops : Array Oper) (o : Oper) (d : Nat) : Bool := match (ops[d]?).bind (·.dst) with | some t => (o.looksAt ops).contains t | none => false

/-- What the kernel looks at: no two of the first n write one slot; each waits for those it reads, and for elder ones alone; those behind the n come in a forced order. -/
def factsB (md : Region.Mode) (ops : Array Oper) (n : Nat) : Bool :=
  Region.noSelect ops && aloneB (ops.toList.take n) && decide (n ≤ ops.size) &&
  ((List.range n).all fun i => match ops[i]? with
    | some o => ((List.range n).all fun d => !leansOn ops o d || Region.waitsFor md ops i d) && o.after.all fun e => !Region.binds md e || decide (e.on < i)
    | none => false) &&
  (decide (n = ops.size) || (Region.sinkB md ops n && Region.chainB md ops n)) &&
  Region.seqB md ops (ops.size - n) n (Array.replicate n true ++ Array.replicate (ops.size - n) false)

def unl (n : Nat) (listed : Array Bool) : Nat := (List.range n).countP fun i => !listed.getD i false

theorem countP_drop {p q : Nat → Bool} {i : Nat} : ∀ (l : List Nat), l.Nodup → i ∈ l → p i = true → q i = false → (∀ j, j ≠ i → p j = q j) → l.countP p = l.countP q + 1
  | [], _, h, _, _, _ => by cases h
  | x :: l, hn, h, hp, hq, he => by
    rw [List.nodup_cons] at hn
    by_cases hx : x = i
    · subst hx
      have : l.countP p = l.countP q := List.countP_congr fun j hj => by rw [he j (fun e => hn.1 (e ▸ hj))]
      simp [hp, hq, this]
    · have hm : i ∈ l := by
        rcases List.mem_cons.1 h with h | h
        · exact absurd h.symm hx
        · exact h
      have := countP_drop l hn.2 hm hp hq he
      simp only [List.countP_cons, he x hx, this]
      omega

theorem unl_set {n i : Nat} {listed : Array Bool} (hi : i < n) (hs : i < listed.size) (h : listed.getD i false = false) : unl n listed = unl n (listed.setIfInBounds i true) + 1 :=
  countP_drop (i := i) _ List.nodup_range (List.mem_range.2 hi) (by simp [h]) (by simp [hs]) fun j hj => by rw [getD_set_ne false (Ne.symm hj)]

theorem unl_zero {n : Nat} {listed : Array Bool} (h : unl n listed = 0) (i : Nat) (hi : i < n) : listed.getD i false = true := by
  have := List.countP_eq_zero.1 h i (List.mem_range.2 hi)
  simpa using this

/-- The block that a pointer leads to. -/
def blk : Value → Nat
  | .pointer (some a) => a.block
  | _ => 0

section
variable {P : Program} {ops : Array Oper} {md : Region.Mode} {Q : Exit → Act → World → Prop} {n : Nat} {R : World → World → Prop} {F : Nat → Value → World → Prop} {a0 : Act} {w0 : World}

theorem wpAny_facts (hB : factsB md ops n = true) (hR : ∀ a b c, R a b → R b c → R a c) (hF : ∀ i v w w', F i v w → R w w' → F i v w')
    (G : Nat → Bool) (hS : ∀ a b, R a b → a.heap.size ≤ b.heap.size) (hG : ∀ i v w, G i = true → F i v w → blk v < w.heap.size)
    (hstep : ∀ i o, i < n → ops[i]? = some o → ∀ (vs : Nat → Value) (w : World), R w0 w → (∀ d, d < n → leansOn ops o d = true → F d (vs d) w) →
      if Region.wanted o (yielded ops (putAll (fun _ => true) vs 0 (ops.toList.take n) a0).tmps) then Gives P o (putAll (fun _ => true) vs 0 (ops.toList.take n) a0) w (fun v w' => R w w' ∧ F i v w' ∧ (G i = true → w.heap.size ≤ blk v)) else F i undef w ∧ R w w ∧ G i = false)
    (htail : ∀ (vs : Nat → Value) (w : World), R w0 w → (∀ d, d < n → F d (vs d) w) → (∀ i j, i < n → j < n → i ≠ j → G i = true → G j = true → blk (vs i) ≠ blk (vs j)) → (∀ i, i < n → G i = true → w0.heap.size ≤ blk (vs i)) → wpList P ops Q (ops.toList.drop n) (putAll (fun _ => true) vs 0 (ops.toList.take n) a0) w) :
    ∀ (fuel : Nat) (listed : Array Bool) (vs : Nat → Value) (w : World), HeadInv md ops n listed → unl n listed = fuel → R w0 w → (∀ d, d < n → listed.getD d false = true → F d (vs d) w) →
      (∀ i j, i < n → j < n → i ≠ j → listed.getD i false = true → listed.getD j false = true → G i = true → G j = true → blk (vs i) ≠ blk (vs j)) → (∀ i, i < n → listed.getD i false = true → G i = true → w0.heap.size ≤ blk (vs i)) →
      wpAny P md ops Q (fuel + (ops.size - n)) listed (putAll (fun i => listed.getD i false) vs 0 (ops.toList.take n) a0) w := by
  simp only [factsB, Bool.and_eq_true, decide_eq_true_eq, Bool.or_eq_true] at hB
  obtain ⟨⟨⟨⟨⟨hsel, hal⟩, hn⟩, hw8⟩, htl⟩, hseq⟩ := hB
  intro fuel
  induction fuel with
  | zero =>
    intro listed vs w inv hu hRw hFs hDs hLs
    have hall : ∀ d, d < n → listed.getD d false = true := unl_zero hu
    have hlist : listed = Array.replicate n true ++ Array.replicate (ops.size - n) false := by
      apply Array.ext
      · simp [inv.size]; omega
      · intro i h1 h2
        by_cases hi : i < n
        · have := hall i hi
          simp [h1] at this
          rw [this]
          simp [hi]
        · have := inv.tail i (by omega) (by rw [← inv.size]; exact h1)
          simp [h1] at this
          rw [this]
          simp [Array.getElem_append, hi]
    have hput : putAll (fun i => listed.getD i false) vs 0 (ops.toList.take n) a0 = putAll (fun _ => true) vs 0 (ops.toList.take n) a0 := by
      have hg : ∀ (l : List Oper) (k : Nat) (a : Act), k + l.length ≤ n → putAll (fun i => listed.getD i false) vs k l a = putAll (fun _ => true) vs k l a := by
        intro l
        induction l with
        | nil => intro k a _; rfl
        | cons o r ih =>
          intro k a hk
          simp only [List.length_cons] at hk
          simp only [putAll, hall k (by omega), if_true]
          exact ih (k + 1) _ (by omega)
      exact hg _ 0 a0 (by simp; omega)
    rw [hput, Nat.zero_add]
    have hd : (ops.toList.drop n).length = ops.size - n := by simp
    have := wpAny_of_seq (md := md) (Q' := Q) (P := P) (ops.toList.drop n) n listed (putAll (fun _ => true) vs 0 (ops.toList.take n) a0) w (fun j => by simp [List.getElem?_drop]) (by rw [hd, hlist]; exact hseq)
      (htail vs w hRw (fun d hd => hFs d hd (hall d hd)) (fun i j hi hj hij => hDs i j hi hj hij (hall i hi) (hall j hj)) (fun i hi => hLs i hi (hall i hi)))
    rwa [hd] at this
  | succ fuel ih =>
    intro listed vs w inv hu hRw hFs hDs hLs
    rw [show fuel + 1 + (ops.size - n) = (fuel + (ops.size - n)) + 1 by omega]
    -- an unlisted one of the first
    have hex : ∃ i, i < n ∧ listed.getD i false = false := by
      rcases Classical.em (∃ i, i < n ∧ listed.getD i false = false) with h | h
      · exact h
      · exfalso
        have : unl n listed = 0 := List.countP_eq_zero.2 fun i hi => by
          cases hl : listed.getD i false with
          | true => simp
          | false => exact absurd ⟨i, List.mem_range.1 hi, hl⟩ h
        omega
    have hop : ∀ i, i < n → ∃ o, ops[i]? = some o ∧ (∀ d, d < n → leansOn ops o d = true → Region.waitsFor md ops i d = true) ∧ (∀ e ∈ o.after, Region.binds md e = true → e.on < i) := by
      intro i hi
      have h1 := List.all_eq_true.1 hw8 i (List.mem_range.2 hi)
      cases ho : ops[i]? with
      | none => rw [ho] at h1; cases h1
      | some o =>
        rw [ho] at h1
        simp only [Bool.and_eq_true] at h1
        refine ⟨o, rfl, fun d hd hl => ?_, fun e he hb => ?_⟩
        · have h2 := List.all_eq_true.1 h1.1 d (List.mem_range.2 hd)
          simp [hl] at h2
          exact h2
        · have h2 := Array.all_eq_true_iff_forall_mem.1 h1.2 e he
          simp [hb] at h2
          exact h2
    have hready : ∃ i, i ∈ Region.ready md ops listed := by
      have hleast : ∀ (k i : Nat), i ≤ k → i < n → listed.getD i false = false → ∃ j, j < n ∧ listed.getD j false = false ∧ ∀ m, m < j → listed.getD m false = true := by
        intro k
        induction k with
        | zero => intro i hik hi h; exact ⟨i, hi, h, fun m hm => by omega⟩
        | succ k ihk =>
          intro i hik hi h
          rcases Classical.em (∃ m, m < i ∧ listed.getD m false = false) with ⟨m, hm, hm'⟩ | hno
          · exact ihk m (by omega) (by omega) hm'
          · exact ⟨i, hi, h, fun m hm => by
              cases hl : listed.getD m false with
              | true => rfl
              | false => exact absurd ⟨m, hm, hl⟩ hno⟩
      obtain ⟨i, hi, hl⟩ := hex
      obtain ⟨j, hj, hjl, hjm⟩ := hleast i i (Nat.le_refl _) hi hl
      obtain ⟨o, ho, _, hb⟩ := hop j hj
      exact ⟨j, mem_ready.2 ⟨getD_in (by rw [inv.size]; omega) hjl, o, ho, fun e he hbe => hjm _ (hb e he hbe)⟩⟩
    refine ⟨fun h0 => (by obtain ⟨i, hi⟩ := hready; rw [h0] at hi; cases hi), fun i hi => ?_⟩
    have hin : i < n := by
      rcases Nat.lt_or_ge i n with h | h
      · exact h
      · exfalso
        obtain ⟨k, hk, hkl⟩ := hex
        obtain ⟨_, oi, hoi, _⟩ := mem_ready.1 hi
        have hlt : i < ops.size := (Array.getElem?_eq_some_iff.1 hoi).1
        rcases htl with he | ⟨hs, hc⟩
        · omega
        · exact tail_waits hs hc (by omega) inv _ k rfl hk (getD_in (by rw [inv.size]; omega) hkl) i h hi
    have hil : listed.getD i false = false := getD_both (mem_ready.1 hi).1
    obtain ⟨o, ho, hdep, _⟩ := hop i hin
    obtain ⟨_, o', ho', hafter⟩ := mem_ready.1 hi
    have hoo : o' = o := Option.some.inj (ho'.symm.trans ho)
    subst hoo
    have hdl : ∀ d, d < n → leansOn ops o' d = true → listed.getD d false = true := by
      intro d hd hl
      obtain ⟨oj, hoj, e, he, hb, hon⟩ := Region.waitsFor_spec (hdep d hd hl)
      have : oj = o' := Option.some.inj (hoj.symm.trans ho)
      subst this
      rw [← hon]
      exact hafter e he hb
    have hagree : Agree (o'.looksAt ops) (putAll (fun i => listed.getD i false) vs 0 (ops.toList.take n) a0) (putAll (fun _ => true) vs 0 (ops.toList.take n) a0) := by
      refine Agree.putAll _ 0 a0 a0 ⟨rfl, fun _ _ => rfl⟩ fun j oj hj hjl d hdst hmem => ?_
      rw [Nat.zero_add] at hjl
      have hj2 : ops[j]? = some oj ∧ j < n := by
        rw [List.getElem?_take] at hj
        split at hj
        · rename_i hlt; exact ⟨by simpa using hj, hlt⟩
        · cases hj
      have := hdl j hj2.2 (by unfold leansOn; rw [hj2.1]; simp [hdst, hmem])
      rw [this] at hjl
      cases hjl
    have hst := hstep i o' hin ho vs w hRw fun d hd hl => hFs d hd (hdl d hd hl)
    have htake : (ops.toList.take n)[i]? = some o' := by rw [List.getElem?_take, if_pos hin]; simpa using ho
    have hnext : ∀ v w', R w w' → F i v w' → (G i = true → w.heap.size ≤ blk v) → wpAny P md ops Q (fuel + (ops.size - n)) (listed.setIfInBounds i true) ((putAll (fun i => listed.getD i false) vs 0 (ops.toList.take n) a0).put o'.dst v) w' := by
      intro v w' hRww hFv hGv
      have hset := putAll_set (sel := fun i => listed.getD i false) (vs := vs) v (ops.toList.take n) 0 i a0 o' hal htake (by simpa using hil)
      simp only [Nat.zero_add] at hset
      rw [← hset]
      have hsize : i < listed.size := by rw [inv.size]; omega
      have hfun : (fun j => if j = i then true else listed.getD j false) = fun j => (listed.setIfInBounds i true).getD j false := by
        funext j
        by_cases hji : j = i
        · subst hji; simp [hsize]
        · rw [if_neg hji, getD_set_ne false (Ne.symm hji)]
      rw [hfun]
      refine ih (listed.setIfInBounds i true) (fun j => if j = i then v else vs j) w' (inv.set hi hin) (by have := unl_set hin hsize hil; omega) (hR _ _ _ hRw hRww) (fun d hd hl => ?_) (fun d e hd he hde hld hle hGd hGe => ?_) (fun d hd hl hGd => ?_)
      · by_cases hdi : d = i
        · subst hdi; simpa using hFv
        · rw [if_neg hdi]
          rw [getD_set_ne false (Ne.symm hdi)] at hl
          exact hF _ _ _ _ (hFs d hd hl) hRww
      · by_cases hdi : d = i
        · by_cases hei : e = i
          · omega
          · rw [if_pos hdi, if_neg hei]
            rw [getD_set_ne false (Ne.symm hei)] at hle
            have h1 := hG _ _ _ hGe (hFs e he hle)
            have h2 := hGv (hdi ▸ hGd)
            omega
        · rw [getD_set_ne false (Ne.symm hdi)] at hld
          by_cases hei : e = i
          · rw [if_neg hdi, if_pos hei]
            have h1 := hG _ _ _ hGd (hFs d hd hld)
            have h2 := hGv (hei ▸ hGe)
            omega
          · rw [if_neg hdi, if_neg hei]
            rw [getD_set_ne false (Ne.symm hei)] at hle
            exact hDs d e hd he hde hld hle hGd hGe
      · by_cases hdi : d = i
        · rw [if_pos hdi]
          have h1 := hS _ _ hRw
          have h2 := hGv (hdi ▸ hGd)
          omega
        · rw [if_neg hdi]
          rw [getD_set_ne false (Ne.symm hdi)] at hl
          exact hLs d hd hl hGd
    unfold wpOp
    rw [ho]
    simp only
    rw [hagree.wanted]
    split
    · rename_i hw
      rw [if_pos hw] at hst
      exact .inl (Gives.wp (hagree.exec fun cs c => Region.noSelect_spec hsel i o' cs c ho) hst fun v w' h => hnext v w' h.1 h.2.1 h.2.2)
    · rename_i hw
      rw [if_neg hw] at hst
      exact hnext undef w hst.2.1 hst.1 (fun h => by rw [hst.2.2] at h; cases h)

/-- Of each operation of a list, in the text's order. -/
def Each (S : Nat → Oper → Prop) : Nat → List Oper → Prop
  | _, [] => True
  | i, o :: r => S i o ∧ Each S (i + 1) r
theorem Each.get {S : Nat → Oper → Prop} : ∀ {l : List Oper} {k : Nat} (_ : Each S k l) (i : Nat) (o : Oper), l[i]? = some o → S (k + i) o
  | [], _, _, _, _, h => by simp at h
  | p :: r, k, h, 0, o, ho => by
    have : p = o := by simpa using ho
    subst this
    exact h.1
  | p :: r, k, h, i + 1, o, ho => by
    have := Each.get h.2 i o (by simpa using ho)
    rwa [show k + 1 + i = k + (i + 1) by omega] at this

end

/-- **A region that draws its order, by facts.** -/
theorem wp_region_facts {P : Program} {id : Nat} {Q : Exit → Act → World → Prop} {a0 : Act} {w0 : World} {l : List Oper} (n : Nat) (R : World → World → Prop) (F : Nat → Value → World → Prop)
    (hm : P.follows .mixedOrders = true) (hB : factsB .any l.toArray n = true) (h0 : R w0 w0.drew) (hR : ∀ a b c, R a b → R b c → R a c) (hF : ∀ i v w w', F i v w → R w w' → F i v w')
    (G : Nat → Bool) (hS : ∀ a b, R a b → a.heap.size ≤ b.heap.size) (hG : ∀ i v w, G i = true → F i v w → blk v < w.heap.size)
    (hstep : ∀ (vs : Nat → Value), Each (fun i o => ∀ w : World, R w0 w → (∀ d, d < n → leansOn l.toArray o d = true → F d (vs d) w) →
      if Region.wanted o (yielded l.toArray (putAll (fun _ => true) vs 0 (l.take n) a0).tmps) then Gives P o (putAll (fun _ => true) vs 0 (l.take n) a0) w (fun v w' => R w w' ∧ F i v w' ∧ (G i = true → w.heap.size ≤ blk v)) else F i undef w ∧ R w w ∧ G i = false) 0 (l.take n))
    (htail : ∀ (vs : Nat → Value) (w : World), R w0 w → (∀ d, d < n → F d (vs d) w) → (∀ i j, i < n → j < n → i ≠ j → G i = true → G j = true → blk (vs i) ≠ blk (vs j)) → (∀ i, i < n → G i = true → w0.heap.size ≤ blk (vs i)) → wpList P l.toArray Q (l.drop n) (putAll (fun _ => true) vs 0 (l.take n) a0) w) :
    (Code.region id l.toArray true).wp P Q a0 w0 := by
  refine wp_region_any hm ?_
  have hn : n ≤ l.toArray.size := by
    simp only [factsB, Bool.and_eq_true, decide_eq_true_eq] at hB
    exact hB.1.1.1.2
  have inv0 : HeadInv .any l.toArray n (Array.replicate l.toArray.size false) :=
    ⟨by simp, fun j oj _ hl => (by rw [getD_replicate_false] at hl; cases hl), fun t _ ht => getD_in (by simpa using ht) (getD_replicate_false _ _)⟩
  have hun : unl n (Array.replicate l.toArray.size false) = n := by
    unfold unl
    rw [List.countP_eq_length.2]
    · simp
    · intro i _; rw [getD_replicate_false]; rfl
  have hput : putAll (fun i => (Array.replicate l.toArray.size false).getD i false) (fun _ => undef) 0 (l.take n) a0 = a0 := by
    have hg : ∀ (l' : List Oper) (k : Nat) (a : Act), putAll (fun i => (Array.replicate l.toArray.size false).getD i false) (fun _ => undef) k l' a = a := by
      intro l'
      induction l' with
      | nil => intro k a; rfl
      | cons o r ih => intro k a; unfold putAll; rw [getD_replicate_false, if_neg (by simp)]; exact ih _ _
    exact hg _ _ _
  have := wpAny_facts (P := P) (md := .any) (ops := l.toArray) (Q := Q) (n := n) (R := R) (F := F) (a0 := a0) (w0 := w0) hB hR hF G hS hG
    (fun i o hi ho vs w hRw hd => by
      have h := Each.get (hstep vs) i o (by rw [List.getElem?_take, if_pos hi]; simpa using ho)
      rw [Nat.zero_add] at h
      exact h w hRw hd)
    (fun vs w hRw hd hDs hLs => htail vs w hRw hd hDs hLs) n (Array.replicate l.toArray.size false) (fun _ => undef) w0.drew inv0 hun h0
    (fun d _ hl => by rw [getD_replicate_false] at hl; cases hl) (fun d e _ _ _ hl => by rw [getD_replicate_false] at hl; cases hl) (fun d _ hl => by rw [getD_replicate_false] at hl; cases hl)
  rw [hput, show n + (l.toArray.size - n) = l.toArray.size by omega] at this
  exact this

/-- What is known of a value, and lasts while all that lies goes on lying. -/
structure Fact where
  p : Value → World → Prop
  st : ∀ v w w', p v w → Below w.heap.size w w' → p v w'
  fr : Bool
  lt : ∀ v w, fr = true → p v w → blk v < w.heap.size
def Fact.eq (c : Value) : Fact := ⟨fun v _ => v = c, fun _ _ _ h _ => h, false, fun _ _ h => by cases h⟩
def Fact.any : Fact := ⟨fun _ _ => True, fun _ _ _ _ _ => trivial, false, fun _ _ h => by cases h⟩
/-- A pointer to a block of the operation's own. -/
def Fact.box (t : TypeId) (cs : Array Value) : Fact := ⟨fun v w => ∃ g, v = .pointer (some ⟨g, 0, none⟩) ∧ Box w g t cs, fun _ _ _ ⟨g, h, hb⟩ h' => ⟨g, h, hb.kept h'⟩, true, fun _ _ _ ⟨_, h, hb⟩ => by rw [h]; exact hb.lt⟩

/-- A slice over a whole block of the operation's own. -/
def Fact.sl (n : Nat) (t : TypeId) (cs : Array Value) : Fact := ⟨fun v w => ∃ g, v = .slice (some ⟨g, 0, none⟩) n n ∧ Box w g t cs, fun _ _ _ ⟨g, h, hb⟩ h' => ⟨g, h, hb.kept h'⟩, false, fun _ _ h => by cases h⟩
/-- A slice that reads as a list. -/
def Fact.row {α : Type} (sz : Nat) (cells : α → List Value) (l : List α) : Fact := ⟨fun v w => RowsAt w v sz cells l, fun _ _ _ h h' => h.kept h', false, fun _ _ h => by cases h⟩
theorem ite_yes {c : Bool} {X Y : Prop} (h : c = true) (hX : X) : if c = true then X else Y := by rw [if_pos h]; exact hX
theorem ite_no {c : Bool} {X Y : Prop} (h : c = false) (hY : Y) : if c = true then X else Y := by rw [if_neg (by rw [h]; exact Bool.false_ne_true)]; exact hY

theorem wp_region_by {P : Program} {id : Nat} {Q : Exit → Act → World → Prop} {a0 : Act} {w0 : World} {l : List Oper} (n : Nat) (Fs : List Fact) (A : (Nat → Value) → Act)
    (hm : P.follows .mixedOrders = true) (hB : factsB .any l.toArray n = true) (hA : ∀ vs, putAll (fun _ => true) vs 0 (l.take n) a0 = A vs)
    (hstep : ∀ (vs : Nat → Value), Each (fun i o => ∀ w : World, Below w0.heap.size w0 w → (∀ d, d < n → leansOn l.toArray o d = true → (Fs.getD d Fact.any).p (vs d) w) →
      if Region.wanted o (yielded l.toArray (A vs).tmps) = true then Gives P o (A vs) w (fun v w' => Below w.heap.size w w' ∧ (Fs.getD i Fact.any).p v w' ∧ ((Fs.getD i Fact.any).fr = true → w.heap.size ≤ blk v)) else (Fs.getD i Fact.any).p undef w ∧ (Fs.getD i Fact.any).fr = false) 0 (l.take n))
    (htail : ∀ (vs : Nat → Value) (w : World), Below w0.heap.size w0 w → (∀ d, d < n → (Fs.getD d Fact.any).p (vs d) w) → (∀ i j, i < n → j < n → i ≠ j → (Fs.getD i Fact.any).fr = true → (Fs.getD j Fact.any).fr = true → blk (vs i) ≠ blk (vs j)) → (∀ i, i < n → (Fs.getD i Fact.any).fr = true → w0.heap.size ≤ blk (vs i)) → wpList P l.toArray Q (l.drop n) (A vs) w) :
    (Code.region id l.toArray true).wp P Q a0 w0 := by
  refine wp_region_facts n (fun w w' => Below w.heap.size w w') (fun i v w => (Fs.getD i Fact.any).p v w) hm hB (Below.refl _ _).drew (fun a b c h k => h.trans (k.mono h.size)) (fun i v w w' h k => (Fs.getD i Fact.any).st v w w' h k) (fun i => (Fs.getD i Fact.any).fr) (fun _ _ h => h.size) (fun i v w h k => (Fs.getD i Fact.any).lt v w h k) ?_ ?_
  · intro vs
    have hg : ∀ (l' : List Oper) (k : Nat), Each (fun i o => ∀ w : World, Below w0.heap.size w0 w → (∀ d, d < n → leansOn l.toArray o d = true → (Fs.getD d Fact.any).p (vs d) w) →
        if Region.wanted o (yielded l.toArray (A vs).tmps) = true then Gives P o (A vs) w (fun v w' => Below w.heap.size w w' ∧ (Fs.getD i Fact.any).p v w' ∧ ((Fs.getD i Fact.any).fr = true → w.heap.size ≤ blk v)) else (Fs.getD i Fact.any).p undef w ∧ (Fs.getD i Fact.any).fr = false) k l' →
        Each (fun i o => ∀ w : World, Below w0.heap.size w0 w → (∀ d, d < n → leansOn l.toArray o d = true → (Fs.getD d Fact.any).p (vs d) w) →
        if Region.wanted o (yielded l.toArray (putAll (fun _ => true) vs 0 (l.take n) a0).tmps) = true then Gives P o (putAll (fun _ => true) vs 0 (l.take n) a0) w (fun v w' => Below w.heap.size w w' ∧ (Fs.getD i Fact.any).p v w' ∧ ((Fs.getD i Fact.any).fr = true → w.heap.size ≤ blk v)) else (Fs.getD i Fact.any).p undef w ∧ Below w.heap.size w w ∧ (Fs.getD i Fact.any).fr = false) k l' := by
      intro l'
      induction l' with
      | nil => intro k _; trivial
      | cons o r ih =>
        intro k h
        refine ⟨fun w hw hd => ?_, ih _ h.2⟩
        have h1 := h.1 w hw hd
        rw [hA vs]
        split
        · rename_i hw'; rw [if_pos hw'] at h1; exact h1
        · rename_i hw'; rw [if_neg hw'] at h1; exact ⟨h1.1, Below.refl _ _, h1.2⟩
    exact hg _ _ (hstep vs)
  · intro vs w hw hd hDs hLs
    rw [hA vs]
    exact htail vs w hw hd hDs hLs

/-- What the kernel looks at where the order is the text's own. -/
def lexB (ops : Array Oper) (n : Nat) : Bool :=
  Region.noSelect ops && aloneB (ops.toList.take n) && decide (n ≤ ops.size) &&
  ((List.range n).all fun i => match ops[i]? with
    | some o => (List.range n).all fun d => !leansOn ops o d || decide (d < i)
    | none => false)

/-- **A region in the text's order, by facts**: each operation is shown once, by itself. -/
theorem wpList_by {P : Program} {Q : Exit → Act → World → Prop} {a0 : Act} {w0 : World} {l : List Oper} (n : Nat) (Fs : List Fact) (A : (Nat → Value) → Act)
    (hB : lexB l.toArray n = true) (hA : ∀ vs, putAll (fun _ => true) vs 0 (l.take n) a0 = A vs)
    (hstep : ∀ (vs : Nat → Value), Each (fun i o => ∀ w : World, Below w0.heap.size w0 w → (∀ d, d < n → leansOn l.toArray o d = true → (Fs.getD d Fact.any).p (vs d) w) →
      if Region.wanted o (yielded l.toArray (A vs).tmps) = true then Gives P o (A vs) w (fun v w' => Below w.heap.size w w' ∧ (Fs.getD i Fact.any).p v w' ∧ ((Fs.getD i Fact.any).fr = true → w.heap.size ≤ blk v)) else (Fs.getD i Fact.any).p undef w ∧ (Fs.getD i Fact.any).fr = false) 0 (l.take n))
    (htail : ∀ (vs : Nat → Value) (w : World), Below w0.heap.size w0 w → (∀ d, d < n → (Fs.getD d Fact.any).p (vs d) w) → (∀ i j, i < n → j < n → i ≠ j → (Fs.getD i Fact.any).fr = true → (Fs.getD j Fact.any).fr = true → blk (vs i) ≠ blk (vs j)) → (∀ i, i < n → (Fs.getD i Fact.any).fr = true → w0.heap.size ≤ blk (vs i)) → wpList P l.toArray Q (l.drop n) (A vs) w) :
    wpList P l.toArray Q l a0 w0 := by
  simp only [lexB, Bool.and_eq_true, decide_eq_true_eq] at hB
  obtain ⟨⟨⟨hsel, hal⟩, hn⟩, hdep⟩ := hB
  have hn' : n ≤ l.length := by simpa using hn
  have key : ∀ (r k : Nat) (vs : Nat → Value) (w : World), k + r = n → Below w0.heap.size w0 w → (∀ d, d < k → (Fs.getD d Fact.any).p (vs d) w) →
      (∀ i j, i < k → j < k → i ≠ j → (Fs.getD i Fact.any).fr = true → (Fs.getD j Fact.any).fr = true → blk (vs i) ≠ blk (vs j)) → (∀ i, i < k → (Fs.getD i Fact.any).fr = true → w0.heap.size ≤ blk (vs i)) →
      wpList P l.toArray Q (l.drop k) (putAll (fun j => decide (j < k)) vs 0 (l.take n) a0) w := by
    intro r
    induction r with
    | zero =>
      intro k vs w hk hw hF hD hL
      have hkn : k = n := by omega
      subst hkn
      have hput : putAll (fun j => decide (j < k)) vs 0 (l.take k) a0 = putAll (fun _ => true) vs 0 (l.take k) a0 := by
        have hg : ∀ (l' : List Oper) (m : Nat) (a : Act), m + l'.length ≤ k → putAll (fun j => decide (j < k)) vs m l' a = putAll (fun _ => true) vs m l' a := by
          intro l'
          induction l' with
          | nil => intro m a _; rfl
          | cons o r ih =>
            intro m a hm
            simp only [List.length_cons] at hm
            have : decide (m < k) = true := by simp; omega
            simp only [putAll, this, if_true]
            exact ih _ _ (by omega)
        exact hg _ _ _ (by simp; omega)
      rw [hput, hA vs]
      exact htail vs w hw hF hD hL
    | succ r ih =>
      intro k vs w hk hw hF hD hL
      have hkl : k < l.length := by omega
      obtain ⟨o, ho⟩ : ∃ o, l[k]? = some o := ⟨_, List.getElem?_eq_getElem hkl⟩
      have hdrop : l.drop k = o :: l.drop (k + 1) := by
        rw [List.drop_eq_getElem_cons hkl]
        have : l[k] = o := (List.getElem?_eq_some_iff.1 ho).2
        rw [this]
      rw [hdrop]
      have hd : ∀ d, d < n → leansOn l.toArray o d = true → d < k := by
        intro d hdn hl
        have h1 := List.all_eq_true.1 hdep k (List.mem_range.2 (by omega))
        have ho' : l.toArray[k]? = some o := by simpa using ho
        rw [ho'] at h1
        have h2 := List.all_eq_true.1 h1 d (List.mem_range.2 hdn)
        simp [hl] at h2
        exact h2
      have hagree : Agree (o.looksAt l.toArray) (putAll (fun j => decide (j < k)) vs 0 (l.take n) a0) (putAll (fun _ => true) vs 0 (l.take n) a0) := by
        refine Agree.putAll _ 0 a0 a0 ⟨rfl, fun _ _ => rfl⟩ fun j oj hj hjl d hdst hmem => ?_
        have hj2 : l[j]? = some oj ∧ j < n := by
          rw [List.getElem?_take] at hj
          split at hj
          · rename_i hlt; exact ⟨hj, hlt⟩
          · cases hj
        have hjk := hd j hj2.2 (by unfold leansOn; simp [hj2.1, hdst, hmem])
        simp at hjl
        omega
      have hst := Each.get (hstep vs) k o (by rw [List.getElem?_take, if_pos (by omega)]; exact ho)
      rw [Nat.zero_add] at hst
      have hst := hst w hw fun d hdn hl => hF d (hd d hdn hl)
      rw [← hA vs] at hst
      have hnext : ∀ v w', Below w.heap.size w w' → (Fs.getD k Fact.any).p v w' → ((Fs.getD k Fact.any).fr = true → w.heap.size ≤ blk v) →
          wpList P l.toArray Q (l.drop (k + 1)) ((putAll (fun j => decide (j < k)) vs 0 (l.take n) a0).put o.dst v) w' := by
        intro v w' hww hFv hGv
        have hset := putAll_set (sel := fun j => decide (j < k)) (vs := vs) v (l.take n) 0 k a0 o (by simpa using hal) (by rw [List.getElem?_take, if_pos (by omega)]; exact ho) (by simp)
        simp only [Nat.zero_add] at hset
        rw [← hset]
        have hfun : (fun j => if j = k then true else decide (j < k)) = fun j => decide (j < k + 1) := by
          funext j
          by_cases hjk : j = k
          · subst hjk; simp
          · rw [if_neg hjk]; congr 1; simp; omega
        rw [hfun]
        have hF' : ∀ d, d < k → (Fs.getD d Fact.any).p (vs d) w' := fun d hd' => (Fs.getD d Fact.any).st _ _ _ (hF d hd') hww
        refine ih (k + 1) (fun j => if j = k then v else vs j) w' (by omega) (hw.trans (hww.mono hw.size)) (fun d hd' => ?_) (fun i j hi hj hij hi' hj' => ?_) (fun i hi hi' => ?_)
        · by_cases hdk : d = k
          · subst hdk; simpa using hFv
          · rw [if_neg hdk]; exact hF' d (by omega)
        · by_cases hik : i = k
          · by_cases hjk : j = k
            · omega
            · rw [if_pos hik, if_neg hjk]
              have h1 := (Fs.getD j Fact.any).lt _ _ hj' (hF j (by omega))
              have h2 := hGv (hik ▸ hi')
              omega
          · by_cases hjk : j = k
            · rw [if_neg hik, if_pos hjk]
              have h1 := (Fs.getD i Fact.any).lt _ _ hi' (hF i (by omega))
              have h2 := hGv (hjk ▸ hj')
              omega
            · rw [if_neg hik, if_neg hjk]
              exact hD i j (by omega) (by omega) hij hi' hj'
        · by_cases hik : i = k
          · rw [if_pos hik]
            have h1 := hw.size
            have h2 := hGv (hik ▸ hi')
            omega
          · rw [if_neg hik]
            exact hL i (by omega) hi'
      unfold wpList
      rw [hagree.wanted]
      split
      · rename_i hw'
        rw [if_pos hw'] at hst
        exact .inl (Gives.wp (hagree.exec fun cs c => Region.noSelect_spec hsel k o cs c (by simpa using ho)) hst fun v w' h => hnext v w' h.1 h.2.1 h.2.2)
      · rename_i hw'
        rw [if_neg hw'] at hst
        exact hnext undef w (Below.refl _ _) hst.1 (fun h => by rw [hst.2] at h; cases h)
  have h0 := key n 0 (fun _ => undef) w0 (by omega) (Below.refl _ _) (fun d hd => by omega) (fun i j hi => by omega) (fun i hi => by omega)
  have hput : putAll (fun j => decide (j < 0)) (fun _ => undef) 0 (l.take n) a0 = a0 := by
    have hg : ∀ (l' : List Oper) (m : Nat) (a : Act), putAll (fun j => decide (j < 0)) (fun _ => undef) m l' a = a := by
      intro l'
      induction l' with
      | nil => intro m a; rfl
      | cons o r ih => intro m a; unfold putAll; rw [if_neg (by simp)]; exact ih _ _
    exact hg _ _ _
  rw [hput, List.drop_zero] at h0
  exact h0

end Go.Proofs.YtonekgefegfapaaGreat
