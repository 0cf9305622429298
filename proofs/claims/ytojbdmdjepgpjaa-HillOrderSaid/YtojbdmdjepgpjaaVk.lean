/-
  PLAIN, no function of the program is named: regions that draw their order: one whose last append writes where an earlier one of the same region wrote; one that puts several cells, one after the other.
-/
import Derived.Test.YtojbdmdjepgpjaaVq
namespace Go.Proofs.Ytojbdmdjepgpjaa
open Go.RowKit

/-- What is known of a value, and lasts while all that lies goes on lying; 'free': it says nothing of memory. -/
structure FactK where
  p : Value → World → Prop
  st : ∀ v w w', p v w → Below w.heap.size w w' → p v w'
  free : Bool
  fr : free = true → ∀ v w w', p v w → p v w'
def FactK.eq (c : Value) : FactK := ⟨fun v _ => v = c, fun _ _ _ h _ => h, true, fun _ _ _ _ h => h⟩
def FactK.any : FactK := ⟨fun _ _ => True, fun _ _ _ _ _ => trivial, true, fun _ _ _ _ _ => trivial⟩
def FactK.sl (n0 len t : Nat) (cs : Array Value) : FactK := ⟨fun v w => ∃ g, v = .slice (some ⟨g, 0, none⟩) len len ∧ Box w g t cs ∧ n0 ≤ g, fun _ _ _ ⟨g, h, h1, h2⟩ hb => ⟨g, h, h1.kept hb, h2⟩, false, fun h => by cases h⟩
def FactK.own (n0 e sz n : Nat) (xs : List Value) : FactK := ⟨fun v w => ∃ A m p, v = .slice A m p ∧ w.ownsRow n0 e sz (.slice A m p) n xs, fun _ _ _ ⟨A, m, p, h, h1⟩ hb => ⟨A, m, p, h, own_below h1 hb⟩, false, fun h => by cases h⟩

structure KillInv (ops : Array Oper) (Fs : List FactK) (n p : Nat) (kill : Nat → Bool) (w0 : World) (L : Nat → Bool) (vs : Nat → Value) (w : World) : Prop where
  below : Below w0.heap.size w0 w
  each : ∀ d, d < n → L d = true → (L p = true → kill d = false) → (Fs.getD d FactK.any).p (vs d) w
  waits : L p = true → ∀ d, d < n → Region.waitsFor .any ops p d = true → L d = true
def leansAt (ops : Array Oper) (i d : Nat) : Bool := match ops[i]? with | some o => leansOn ops o d | none => false
def killB (ops : Array Oper) (n p : Nat) (kill : Nat → Bool) : Bool :=
  decide (p < n) && !kill p && (List.range n).all fun i => (List.range n).all fun d => !kill d || i == p || !leansAt ops i d || Region.waitsFor .any ops p i

/-- **A region that draws its order, whose operation p spoils some of the facts.** -/
theorem wp_region_kill {P : Program} {id : Nat} {Q : Exit → Act → World → Prop} {a0 : Act} {w0 : World} {l : List Oper} (n p : Nat) (kill : Nat → Bool) (Fs : List FactK) (A : (Nat → Value) → Act)
    (hm : P.follows .mixedOrders = true) (hB : factsB .any l.toArray n = true) (hk : killB l.toArray n p kill = true) (hfree : ((List.range n).all fun d => d == p || kill d || (Fs.getD d FactK.any).free) = true) (hA : ∀ vs, putAll (fun _ => true) vs 0 (l.take n) a0 = A vs)
    (hstep : ∀ (vs : Nat → Value), Each (fun i o => i ≠ p → ∀ w : World, Below w0.heap.size w0 w → (∀ d, d < n → leansOn l.toArray o d = true → (Fs.getD d FactK.any).p (vs d) w) →
      Region.wanted o (yielded l.toArray (A vs).tmps) = true ∧ Gives P o (A vs) w (fun v w' => Below w.heap.size w w' ∧ (Fs.getD i FactK.any).p v w')) 0 (l.take n))
    (hp : ∀ (vs : Nat → Value) (o : Oper), l[p]? = some o → ∀ w : World, Below w0.heap.size w0 w → (∀ d, d < n → leansOn l.toArray o d = true → (Fs.getD d FactK.any).p (vs d) w) →
      Region.wanted o (yielded l.toArray (A vs).tmps) = true ∧ Gives P o (A vs) w (fun v w' => Below w0.heap.size w0 w' ∧ (Fs.getD p FactK.any).p v w'))
    (htail : ∀ (vs : Nat → Value) (w : World), Below w0.heap.size w0 w → (∀ d, d < n → kill d = false → (Fs.getD d FactK.any).p (vs d) w) → wpList P l.toArray Q (l.drop n) (A vs) w) :
    (Code.region id l.toArray true).wp P Q a0 w0 := by
  refine wp_region_any hm ?_
  have hn : n ≤ l.toArray.size := by
    simp only [factsB, Bool.and_eq_true, decide_eq_true_eq] at hB
    exact hB.1.1.1.2
  simp only [killB, Bool.and_eq_true, decide_eq_true_eq, Bool.not_eq_true'] at hk
  obtain ⟨⟨hpn, hkp⟩, hk3⟩ := hk
  have inv0 : HeadInv .any l.toArray n (Array.replicate l.toArray.size false) :=
    ⟨by simp, fun j oj _ hl => (by rw [getD_replicate_false] at hl; cases hl), fun t _ ht => getD_in (by simpa using ht) (getD_replicate_false _ _)⟩
  have hun : unl n (Array.replicate l.toArray.size false) = n := by
    unfold unl
    rw [List.countP_eq_length.2]
    · simp
    · intro i _; rw [getD_replicate_false]; rfl
  have hput : putAll (fun i => (Array.replicate l.toArray.size false).getD i false) (fun _ => undef) 0 (l.take n) a0 = a0 := by
    have hg : ∀ (l' : List Oper) (k : Nat) (a : Act), putAll (fun i => (Array.replicate l.toArray.size false).getD i false) (fun _ => undef) k l' a = a := by
      intro l'
      induction l' with
      | nil => intro k a; rfl
      | cons o r ih => intro k a; unfold putAll; rw [getD_replicate_false, if_neg (by simp)]; exact ih _ _
    exact hg _ _ _
  have h0 : KillInv l.toArray Fs n p kill w0 (fun i => (Array.replicate l.toArray.size false).getD i false) (fun _ => undef) w0.drew :=
    ⟨(Below.refl _ _).drew, (fun d _ h => by simp only [getD_replicate_false] at h; cases h), (fun h => by simp only [getD_replicate_false] at h; cases h)⟩
  have := wpAny_inv2 (P := P) (md := .any) (ops := l.toArray) (Q := Q) (n := n) (a0 := a0) hB (KillInv l.toArray Fs n p kill w0) (fun i o hi ho L vs w hLi hdep hwait hI => ?_) (fun L vs w hall hI => ?_) n (Array.replicate l.toArray.size false) (fun _ => undef) w0.drew inv0 hun h0
  · rw [hput, show n + (l.toArray.size - n) = l.toArray.size by omega] at this
    exact this
  · have hAA : putAll (fun _ => true) vs 0 (l.toArray.toList.take n) a0 = A vs := hA vs
    rw [hAA]
    have hset : ∀ {j : Nat}, j ≠ i → (if j = i then true else L j) = L j := fun h => if_neg h
    have hdeps : ∀ d, d < n → leansOn l.toArray o d = true → (Fs.getD d FactK.any).p (vs d) w := fun d hd hl => by
      refine hI.each d hd (hdep d hd hl) fun hLp => ?_
      cases hkd : kill d with
      | false => rfl
      | true =>
        exfalso
        have h1 := List.all_eq_true.1 (List.all_eq_true.1 hk3 i (List.mem_range.2 hi)) d (List.mem_range.2 hd)
        have h2 : leansAt l.toArray i d = true := by unfold leansAt; rw [ho]; exact hl
        rw [hkd, h2] at h1
        simp only [Bool.not_true, Bool.false_or, Bool.or_false, Bool.or_eq_true, beq_iff_eq] at h1
        rcases h1 with h1 | h1
        · rw [h1] at hLi
          rw [hLi] at hLp
          cases hLp
        · have := hI.waits hLp i hi h1
          rw [hLi] at this
          cases this
    by_cases hip : i = p
    · subst hip
      have h1 := hp vs o (by simpa using ho) w hI.below hdeps
      rw [if_pos h1.1]
      refine h1.2.mono fun v w' ⟨hb, hf⟩ => ⟨hb, fun d hd hl hki => ?_, fun _ d hd hl => ?_⟩
      · by_cases hdi : d = i
        · subst hdi
          rw [if_pos rfl]
          exact hf
        · rw [hset hdi] at hl
          rw [if_neg hdi]
          have hfd := List.all_eq_true.1 hfree d (List.mem_range.2 hd)
          rw [hki (if_pos rfl)] at hfd
          simp only [Bool.or_false, Bool.or_eq_true, beq_iff_eq] at hfd
          exact (Fs.getD d FactK.any).fr (hfd.resolve_left hdi) _ _ _ (hI.each d hd hl fun h => by rw [hLi] at h; cases h)
      · by_cases hdi : d = i
        · rw [if_pos hdi]
        · rw [if_neg hdi]
          exact hwait d hd hl
    · have hE := Each.get (hstep vs) i o (by rw [List.getElem?_take, if_pos hi]; simpa using ho)
      rw [Nat.zero_add] at hE
      have h1 := hE hip w hI.below hdeps
      rw [if_pos h1.1]
      refine h1.2.mono fun v w' ⟨hb, hv⟩ => ⟨up_later hI.below hb, fun d hd hl hki => ?_, fun hl d hd hwf => ?_⟩
      · rw [hset (Ne.symm hip)] at hki
        by_cases hdi : d = i
        · subst hdi
          rw [if_pos rfl]
          exact hv
        · rw [hset hdi] at hl
          rw [if_neg hdi]
          exact (Fs.getD d FactK.any).st _ _ _ (hI.each d hd hl hki) hb
      · rw [hset (Ne.symm hip)] at hl
        by_cases hdi : d = i
        · rw [if_pos hdi]
        · rw [if_neg hdi]
          exact hI.waits hl d hd hwf
  · have hAA : putAll (fun _ => true) vs 0 (l.toArray.toList.take n) a0 = A vs := hA vs
    rw [hAA]
    exact htail vs w hI.below fun d hd hkd => hI.each d hd (hall d hd) fun _ => hkd

/-- Some cells are put, one after the other. -/
def putsTo : List (Nat × Addr × Value) → World → World
  | [], w => w
  | (_, a, u) :: r, w => putsTo r (w.setCell a u)
theorem putsTo_take {S : List (Nat × Addr × Value)} {m : Nat} {x : Nat × Addr × Value} {w : World} (h : S[m]? = some x) : putsTo (S.take (m + 1)) w = (putsTo (S.take m) w).setCell x.2.1 x.2.2 := by
  induction S generalizing m w with
  | nil => cases h
  | cons y r ih =>
    obtain ⟨i, a, u⟩ := y
    cases m with
    | zero =>
      simp only [List.getElem?_cons_zero, Option.some.injEq] at h
      subst h
      rfl
    | succ m =>
      simp only [List.getElem?_cons_succ] at h
      simp only [List.take_succ_cons, putsTo]
      exact ih h
theorem putsTo_size {S : List (Nat × Addr × Value)} {w : World} : (putsTo S w).heap.size = w.heap.size := by
  induction S generalizing w with
  | nil => rfl
  | cons y r ih =>
    obtain ⟨i, a, u⟩ := y
    simp only [putsTo]
    rw [ih]
    simp [World.setCell]

theorem box_puts {S : List (Nat × Addr × Value)} {w : World} {g t j : Nat} {cs : Array Value} (h : Box w g t cs) (hn : ∀ x ∈ S, g ≠ x.2.1.block) : Box (putsTo (S.take j) w) g t cs := by
  induction S generalizing w j with
  | nil => simpa [putsTo] using h
  | cons y r ih =>
    obtain ⟨i, a, u⟩ := y
    cases j with
    | zero => simpa [putsTo] using h
    | succ j =>
      simp only [List.take_succ_cons, putsTo]
      exact ih (h.far (p := a) (hn _ (List.mem_cons_self ..)) u) fun x hx => hn x (List.mem_cons_of_mem _ hx)

structure PutsInv (ops : Array Oper) (Cs : List Value) (S : List (Nat × Addr × Value)) (n : Nat) (w0 : World) (L : Nat → Bool) (vs : Nat → Value) (w : World) : Prop where
  each : ∀ d, d < n → S.any (fun x => x.1 == d) = false → L d = true → vs d = Cs.getD d undef
  upto : ∃ j, j ≤ S.length ∧ (∀ m x, S[m]? = some x → L x.1 = decide (m < j)) ∧ Below w0.heap.size (putsTo (S.take j) w0) w
  waits : ∀ x ∈ S, L x.1 = true → ∀ d, d < n → Region.waitsFor .any ops x.1 d = true → L d = true
def putsB (ops : Array Oper) (n : Nat) (S : List (Nat × Addr × Value)) : Bool :=
  S.all (fun x => decide (x.1 < n)) && (List.range S.length).all fun m => (List.range m).all fun k => match S[k]?, S[m]? with | some x, some y => Region.waitsFor .any ops y.1 x.1 && decide (x.1 ≠ y.1) | _, _ => true

/-- **A region that draws its order, and puts several cells, one after the other.** -/
theorem wp_region_puts {P : Program} {id : Nat} {Q : Exit → Act → World → Prop} {a0 : Act} {w0 : World} {l : List Oper} (n : Nat) (S : List (Nat × Addr × Value)) (Cs : List Value) (A : (Nat → Value) → Act)
    (hm : P.follows .mixedOrders = true) (hB : factsB .any l.toArray n = true) (hS : putsB l.toArray n S = true) (hA : ∀ vs, putAll (fun _ => true) vs 0 (l.take n) a0 = A vs)
    (hstep : ∀ (vs : Nat → Value), Each (fun i o => S.any (fun x => x.1 == i) = false → ∀ w : World, w0.heap.size ≤ w.heap.size → (∃ j, j ≤ S.length ∧ (∀ m x, m < j → S[m]? = some x → Region.waitsFor .any l.toArray x.1 i = false) ∧ Below w0.heap.size (putsTo (S.take j) w0) w) → (∀ d, d < n → leansOn l.toArray o d = true → S.any (fun x => x.1 == d) = false → vs d = Cs.getD d undef) →
      Region.wanted o (yielded l.toArray (A vs).tmps) = true ∧ Gives P o (A vs) w (fun v w' => Below w.heap.size w w' ∧ v = Cs.getD i undef)) 0 (l.take n))
    (hp : ∀ (vs : Nat → Value) (m : Nat) (x : Nat × Addr × Value) (o : Oper), S[m]? = some x → l[x.1]? = some o → ∀ w : World, Below w0.heap.size (putsTo (S.take m) w0) w → (∀ d, d < n → leansOn l.toArray o d = true → S.any (fun x => x.1 == d) = false → vs d = Cs.getD d undef) →
      Region.wanted o (yielded l.toArray (A vs).tmps) = true ∧ Gives P o (A vs) w (fun _ w' => w' = w.setCell x.2.1 x.2.2))
    (htail : ∀ (vs : Nat → Value) (w : World), Below w0.heap.size (putsTo S w0) w → (∀ d, d < n → S.any (fun x => x.1 == d) = false → vs d = Cs.getD d undef) → wpList P l.toArray Q (l.drop n) (A vs) w) :
    (Code.region id l.toArray true).wp P Q a0 w0 := by
  refine wp_region_any hm ?_
  have hn : n ≤ l.toArray.size := by
    simp only [factsB, Bool.and_eq_true, decide_eq_true_eq] at hB
    exact hB.1.1.1.2
  simp only [putsB, Bool.and_eq_true, List.all_eq_true, decide_eq_true_eq, List.mem_range] at hS
  obtain ⟨hSn, hSc⟩ := hS
  have inv0 : HeadInv .any l.toArray n (Array.replicate l.toArray.size false) :=
    ⟨by simp, fun j oj _ hl => (by rw [getD_replicate_false] at hl; cases hl), fun t _ ht => getD_in (by simpa using ht) (getD_replicate_false _ _)⟩
  have hun : unl n (Array.replicate l.toArray.size false) = n := by
    unfold unl
    rw [List.countP_eq_length.2]
    · simp
    · intro i _; rw [getD_replicate_false]; rfl
  have hput : putAll (fun i => (Array.replicate l.toArray.size false).getD i false) (fun _ => undef) 0 (l.take n) a0 = a0 := by
    have hg : ∀ (l' : List Oper) (k : Nat) (a : Act), putAll (fun i => (Array.replicate l.toArray.size false).getD i false) (fun _ => undef) k l' a = a := by
      intro l'
      induction l' with
      | nil => intro k a; rfl
      | cons o r ih => intro k a; unfold putAll; rw [getD_replicate_false, if_neg (by simp)]; exact ih _ _
    exact hg _ _ _
  have h0 : PutsInv l.toArray Cs S n w0 (fun i => (Array.replicate l.toArray.size false).getD i false) (fun _ => undef) w0.drew :=
    ⟨(fun d _ _ h => by simp only [getD_replicate_false] at h; cases h), ⟨0, Nat.zero_le _, (fun m x _ => by simp only [getD_replicate_false]; simp), by simpa [putsTo] using (Below.refl w0.heap.size w0).drew⟩, (fun x _ h => by simp only [getD_replicate_false] at h; cases h)⟩
  have := wpAny_inv2 (P := P) (md := .any) (ops := l.toArray) (Q := Q) (n := n) (a0 := a0) hB (PutsInv l.toArray Cs S n w0) (fun i o hi ho L vs w hLi hdep hwait hI => ?_) (fun L vs w hall hI => ?_) n (Array.replicate l.toArray.size false) (fun _ => undef) w0.drew inv0 hun h0
  · rw [hput, show n + (l.toArray.size - n) = l.toArray.size by omega] at this
    exact this
  · have hAA : putAll (fun _ => true) vs 0 (l.toArray.toList.take n) a0 = A vs := hA vs
    rw [hAA]
    have hset : ∀ {j : Nat}, j ≠ i → (if j = i then true else L j) = L j := fun h => if_neg h
    have hdeps : ∀ d, d < n → leansOn l.toArray o d = true → S.any (fun x => x.1 == d) = false → vs d = Cs.getD d undef := fun d hd hl hds => hI.each d hd hds (hdep d hd hl)
    obtain ⟨j, hj, hLj, hbj⟩ := hI.upto
    by_cases hip : S.any (fun x => x.1 == i) = true
    · obtain ⟨x, hx, hxi⟩ := List.any_eq_true.1 hip
      simp only [beq_iff_eq] at hxi
      obtain ⟨m, hm2⟩ := List.mem_iff_getElem?.1 hx
      have hmlt : m < S.length := (List.getElem?_eq_some_iff.1 hm2).1
      have hmj : j = m := by
        have h1 := hLj m x hm2
        rw [hxi, hLi] at h1
        have h2 : ¬ m < j := by simpa using h1.symm
        rcases Nat.lt_or_ge j m with h3 | h3
        · exfalso
          have hjl : j < S.length := by omega
          have h4 := hSc m hmlt j h3
          rw [hm2, List.getElem?_eq_getElem hjl] at h4
          simp only [Bool.and_eq_true, decide_eq_true_eq] at h4
          have h5 := hwait _ (hSn S[j] (List.getElem_mem hjl)) (by rw [hxi] at h4; exact h4.1)
          rw [hLj j S[j] (List.getElem?_eq_getElem hjl)] at h5
          simp at h5
        · omega
      subst hmj
      have h1 := hp vs j x o hm2 (by rw [hxi]; simpa using ho) w hbj hdeps
      rw [if_pos h1.1]
      refine h1.2.mono fun v w' hw' => ⟨fun d hd hds hl => ?_, ⟨j + 1, by omega, fun k y hy => ?_, ?_⟩, fun y hy hl d hd hwf => ?_⟩
      · have hdi : d ≠ i := fun e => by rw [e, hip] at hds; cases hds
        rw [hset hdi] at hl
        rw [if_neg hdi]
        exact hI.each d hd hds hl
      · by_cases hyi : y.1 = i
        · rw [if_pos hyi]
          have hkj : k = j := by
            have h1 := hLj k y hy
            rw [hyi, hLi] at h1
            have h2 : ¬ k < j := by simpa using h1.symm
            rcases Nat.lt_or_ge j k with h3 | h3
            · exfalso
              have hkl : k < S.length := (List.getElem?_eq_some_iff.1 hy).1
              have h4 := hSc k hkl j h3
              rw [hy, hm2] at h4
              simp only [Bool.and_eq_true, decide_eq_true_eq] at h4
              exact h4.2 (hxi.trans hyi.symm)
            · omega
          subst hkj
          simp
        · rw [if_neg hyi, hLj k y hy]
          have : k ≠ j := fun e => by
            subst e
            rw [hm2] at hy
            cases hy
            exact hyi hxi
          have e : (k < j + 1) = (k < j) := by
            apply propext
            omega
          simp only [e]
      · subst hw'
        rw [putsTo_take hm2]
        exact below_put hbj
      · by_cases hdi : d = i
        · rw [if_pos hdi]
        · rw [if_neg hdi]
          by_cases hyi : y.1 = i
          · rw [hyi] at hwf
            exact hwait d hd hwf
          · rw [hset hyi] at hl
            exact hI.waits y hy hl d hd hwf
    · have hip' : S.any (fun x => x.1 == i) = false := Bool.eq_false_iff.2 hip
      have hni : ∀ x ∈ S, x.1 ≠ i := fun x hx e => hip (List.any_eq_true.2 ⟨x, hx, by simpa using e⟩)
      have hE := Each.get (hstep vs) i o (by rw [List.getElem?_take, if_pos hi]; simpa using ho)
      rw [Nat.zero_add] at hE
      have hsz := hbj.size
      rw [putsTo_size] at hsz
      have hno : ∀ (m : Nat) (x : Nat × Addr × Value), m < j → S[m]? = some x → Region.waitsFor .any l.toArray x.1 i = false := by
        intro m x hm hx
        cases hwf : Region.waitsFor .any l.toArray x.1 i with
        | false => rfl
        | true =>
          have h2 := hLj m x hx
          rw [decide_eq_true hm] at h2
          have h3 := hI.waits x (List.mem_of_getElem? hx) h2 i hi hwf
          rw [hLi] at h3
          cases h3
      have h1 := hE hip' w hsz ⟨j, hj, hno, hbj⟩ hdeps
      rw [if_pos h1.1]
      refine h1.2.mono fun v w' ⟨hb, hv⟩ => ⟨fun d hd hds hl => ?_, ⟨j, hj, fun k y hy => ?_, hbj.trans (hb.mono hsz)⟩, fun y hy hl d hd hwf => ?_⟩
      · by_cases hdi : d = i
        · subst hdi
          rw [if_pos rfl]
          exact hv
        · rw [hset hdi] at hl
          rw [if_neg hdi]
          exact hI.each d hd hds hl
      · rw [if_neg (hni y (List.mem_of_getElem? hy))]
        exact hLj k y hy
      · rw [hset (hni y hy)] at hl
        by_cases hdi : d = i
        · rw [if_pos hdi]
        · rw [if_neg hdi]
          exact hI.waits y hy hl d hd hwf
  · have hAA : putAll (fun _ => true) vs 0 (l.toArray.toList.take n) a0 = A vs := hA vs
    rw [hAA]
    obtain ⟨j, hj, hLj, hbj⟩ := hI.upto
    have hjl : j = S.length := by
      rcases Nat.lt_or_ge j S.length with h | h
      · exfalso
        have h1 := hLj j S[j] (List.getElem?_eq_getElem h)
        rw [hall _ (hSn S[j] (List.getElem_mem h))] at h1
        simp at h1
      · omega
    subst hjl
    rw [List.take_length] at hbj
    exact htail vs w hbj fun d hd hds => hI.each d hd hds (hall d hd)

section
variable {P : Program}
/-- 'append' of all that a slice reads as, onto a slice of the call's own. -/
theorem run_append_rows {w : World} (base : Nat) (t ty e : TypeId) (i : TypeInfo) (z : Value) (size bytes : Nat) (ht : P.underlying t = some (.slice e)) (hi : P.info? e = some i) (hz : i.zero = some z)
    (hsize : i.size = size) (hby : i.bytes = bytes) (hzs : z.cells.size = size) (hsz : 0 < size) (v : Value) (n : Nat) (xs : List Value) (hown : w.ownsRow base e size v n xs)
    {α : Type} (cells : α → List Value) (l : List α) (u : Value) (hR : RowsAt w u size cells l) (hc : ∀ x, (cells x).length = size) (h1 : ∀ x ∈ l, ∀ y ∈ cells x, y.oneCell' = true)
    (h63 : n + l.length ≤ maxLen) (hbytes : (n + l.length) * bytes ≤ 140737488355328) (hbase : base ≤ w.heap.size) :
    ∃ v' w', (Builtin.append_ #[t, t] ty #[v, u]).run P w = .ok v' w' ∧ w'.ownsRow base e size v' (n + l.length) (xs ++ l.flatMap cells) ∧ w.grownBy w' v.ownBlock ∧ (v'.ownBlock = v.ownBlock ∨ v'.ownBlock = some w.heap.size) := by
  obtain ⟨_, A, cap, rfl, _, _, hcell⟩ := hR
  have hl := flat_len hc l
  have ho1 : ∀ y ∈ l.flatMap cells, y.oneCell' = true := fun y hy => by
    obtain ⟨x, hx, hy⟩ := List.mem_flatMap.1 hy
    exact h1 x hx y hy
  by_cases hne : l = []
  · subst hne
    have r0 := run_append_own_at (P := P) w base t ty e i z size bytes ht hi hz hsize hby hzs hsz v n xs hown
    cases A with
    | none =>
      obtain ⟨v', w', hr, h2, h3, _, h5⟩ := r0 ⟨0, 0, none⟩ 0 cap [] (by simp) (by simp) (by simp) h63 hbytes hbase
      refine ⟨v', w', ?_, h2, h3, h5⟩
      have hq := append_nil_run (P := P) w base t ty e i size ht hi v n xs hown cap
      exact hq.trans hr
    | some ad =>
      obtain ⟨v', w', hr, h2, h3, _, h5⟩ := r0 ad 0 cap [] (by simp) (by simp) (by simp) h63 hbytes hbase
      exact ⟨v', w', hr, h2, h3, h5⟩
  · obtain ⟨b, off, rfl, _, hcl⟩ := hcell hne
    obtain ⟨v', w', hr, h2, h3, _, h5⟩ := run_append_own_at (P := P) w base t ty e i z size bytes ht hi hz hsize hby hzs hsz v n xs hown ⟨b, off, none⟩ l.length cap (l.flatMap cells) hl (fun j y hy => by
      obtain ⟨x, hx, hu⟩ := flat_get hc hsz l j y hy
      have := hcl _ x hx _ y hu
      have e1 : (⟨b, off, none⟩ : Addr).add j = ⟨b, off + j, none⟩ := by
        unfold Addr.add
        by_cases h : j = 0 <;> simp [h]
      have e2 : off + j / size * size + j % size = off + j := by
        have := Nat.div_add_mod j size
        rw [Nat.mul_comm] at this
        omega
      rw [e1, ← e2]
      exact this) ho1 h63 hbytes hbase
    exact ⟨v', w', hr, h2, h3, h5⟩
theorem gives_slice {o : Oper} {ρ : Operand → Value} {w : World} {K : Value → World → Prop} (t : TypeId) (x : Operand) (lo hi : Option Operand) (ho : o.op = .slice t x lo hi none) (u v : Value) (vlo vhi : Option Value) (hx : ρ x = u)
    (hlo : lo.map ρ = vlo) (hhi : hi.map ρ = vhi) (hr : (Instr.sliceAt t u vlo vhi none).run P w = .ok v w) (hK : K v w) : gives P K ((execOp ρ o).run P w) := by
  unfold execOp
  simp only [ho, hx, hlo, hhi, Option.map_none, Sem.run_bind, Sem.run_pure, hr, Result.andThen_ok]
  exact hK
theorem rows_from {α : Type} {cells : α → List Value} {sz : Nat} {t e : TypeId} {i : TypeInfo} (ht : P.underlying t = some (.slice e)) (hi : P.info? e = some i) (hs : i.size = sz) {A : Option Addr} {cap : Nat} {l : List α} {r : Nat} (hr : r ≤ l.length) (k : IntKind) :
    ∃ V, (∀ w, (Instr.sliceAt t (.slice A l.length cap) (some (.int k (r : Int))) none none).run P w = .ok V w) ∧ ∀ w, RowsAt w (.slice A l.length cap) sz cells l → RowsAt w V sz cells (l.drop r) := by
  refine ⟨.slice (if cap = r then A else A.map (·.add (r * sz))) (l.length - r) (cap - r), fun w => ?_, fun w h => ?_⟩
  · have h0 : (0 : Int) ≤ (r : Int) := by omega
    have h1 : (r : Int) ≤ (l.length : Int) := by omega
    simp [Instr.sliceAt, Instr.slice, run_underlying ht, Instr.sliceBounds, run_sliceBound, sizeOf, typeInfo, hi, hs, h0, hr]
  · obtain ⟨hk, A', cap', e1, h2, h3, h4⟩ := h
    cases e1
    refine ⟨by rw [List.length_drop]; omega, _, _, by rw [List.length_drop], by rw [List.length_drop]; omega, by omega, fun hne => ?_⟩
    have hlt : r < l.length := by
      rcases Nat.lt_or_ge r l.length with h | h
      · exact h
      · exact absurd (List.drop_eq_nil_of_le h) hne
    obtain ⟨b, off, rfl, hb, hc⟩ := h4 (fun e => by rw [e] at hlt; simp at hlt)
    refine ⟨b, off + r * sz, ?_, hb, fun m x hx j u hu => ?_⟩
    · rw [if_neg (by omega)]
      unfold Addr.add
      by_cases h : r * sz = 0 <;> simp [h]
    · rw [List.getElem?_drop] at hx
      have := hc _ x hx j u hu
      rw [Nat.add_mul] at this
      rw [show off + r * sz + m * sz + j = off + (r * sz + m * sz) + j by omega]
      exact this
theorem rows_upto {α : Type} {cells : α → List Value} {sz : Nat} {t e : TypeId} {i : TypeInfo} (ht : P.underlying t = some (.slice e)) (hi : P.info? e = some i) {A : Option Addr} {cap : Nat} {l : List α} {r : Nat} (hr : r ≤ l.length) (hcap : l.length ≤ cap) (k : IntKind) :
    ∃ V, (∀ w, (Instr.sliceAt t (.slice A l.length cap) none (some (.int k (r : Int))) none).run P w = .ok V w) ∧ ∀ w, RowsAt w (.slice A l.length cap) sz cells l → RowsAt w V sz cells (l.take r) := by
  refine ⟨.slice A r cap, fun w => ?_, fun w h => ?_⟩
  · have h0 : (0 : Int) ≤ (r : Int) := by omega
    have h1 : (r : Int) ≤ (cap : Int) := by omega
    have h2 : (if cap = 0 then A else A.map (·.add 0)) = A := by
      split
      · rfl
      · cases A <;> simp [Addr.add]
    simp [Instr.sliceAt, Instr.slice, run_underlying ht, Instr.sliceBounds, run_sliceBound, sizeOf, typeInfo, hi, h0, h1, h2]
  · obtain ⟨hk, A', cap', e1, h2, h3, h4⟩ := h
    cases e1
    have hlen : (l.take r).length = r := by rw [List.length_take]; omega
    refine ⟨by omega, A, cap, by rw [hlen], by omega, h3, fun hne => ?_⟩
    obtain ⟨b, off, rfl, hb, hc⟩ := h4 (fun e => by rw [e] at hne; simp at hne)
    refine ⟨b, off, rfl, hb, fun m x hx j u hu => ?_⟩
    rw [List.getElem?_take] at hx
    split at hx
    · exact hc m x hx j u hu
    · cases hx
end

end Go.Proofs.Ytojbdmdjepgpjaa
