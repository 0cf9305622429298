/-
  PLAIN: the first explanation; a drawn region whose operations may grow one block of the caller's own choice; the marks that loops over iterators leave behind, any number of them.
-/
import Derived.RangeFuncNested
import Derived.RangeFuncLeaves
import Derived.Test.YtonekgefegfapaaGreatFi
namespace Go.Proofs.YtonekgefegfapaaGreat
open Go.RowKit Go.Shelf

/-- The step is the best that there is from this place. -/
def bestB (S R : By) (p : Nat × Nat) (x : Nat × Nat × Nat) : Bool := errsN x.1 + fewI S R x.2 == fewI S R p
/-- The first explanation from a place on. -/
def firstF (S R : By) : Nat → Nat × Nat → List Nat
  | 0, _ => []
  | f + 1, p => if p = (S.length, R.length) then [] else match (nextI S R p).find? (bestB S R p) with
    | some x => x.1 :: firstF S R f x.2
    | none => []
def firstI (S R : By) (p : Nat × Nat) : List Nat := firstF S R (leftN S R p) p
theorem firstF_succ (S R : By) (f : Nat) (p : Nat × Nat) : firstF S R (f + 1) p = if p = (S.length, R.length) then [] else match (nextI S R p).find? (bestB S R p) with
    | some x => x.1 :: firstF S R f x.2
    | none => [] := rfl
theorem firstI_end (S R : By) : firstI S R (S.length, R.length) = [] := by
  unfold firstI leftN
  simp [firstF]
theorem firstF_same (S R : By) : ∀ (f g : Nat) (p : Nat × Nat), p.1 ≤ S.length → p.2 ≤ R.length → leftN S R p ≤ f → leftN S R p ≤ g → firstF S R f p = firstF S R g p
  | 0, 0, _, _, _, _, _ => rfl
  | 0, g + 1, p, h1, h2, h3, _ => by
    have e : p = (S.length, R.length) := by
      unfold leftN at h3
      exact Prod.ext (by omega) (by omega)
    simp [firstF, e]
  | f + 1, 0, p, h1, h2, _, h3 => by
    have e : p = (S.length, R.length) := by
      unfold leftN at h3
      exact Prod.ext (by omega) (by omega)
    simp [firstF, e]
  | f + 1, g + 1, p, h1, h2, h3, h4 => by
    rw [firstF_succ, firstF_succ]
    by_cases e : p = (S.length, R.length)
    · rw [if_pos e, if_pos e]
    · rw [if_neg e, if_neg e]
      cases hx : (nextI S R p).find? (bestB S R p) with
      | none => rfl
      | some x =>
        obtain ⟨k, a, b⟩ := x
        obtain ⟨hk, hq⟩ := nextI_mem (List.mem_of_find?_eq_some hx)
        obtain ⟨i, j⟩ := p
        have := aftI_in hk h1 h2 hq
        unfold leftN at h3 h4
        simp only at h3 h4
        simp only
        rw [firstF_same S R f g (a, b) this.2.1 this.2.2.2.1 (by unfold leftN; simp only; omega) (by unfold leftN; simp only; omega)]
theorem nextTo_pre {S R : By} {p : Nat × Nat} (n d : Nat) : ∃ r, nextTo S R p (n + d) = nextTo S R p n ++ r := by
  induction d with
  | zero => exact ⟨[], by simp⟩
  | succ d ih =>
    obtain ⟨r, h⟩ := ih
    exact ⟨_, by rw [← Nat.add_assoc, nextTo_succ, h, List.append_assoc]⟩
/-- **The step of the first explanation**: the first of those that can be next that is the best. -/
theorem firstI_step {S R : By} {i j k a c n : Nat} {pre : List (Nat × Nat × Nat)} (h1 : i ≤ S.length) (h2 : j ≤ R.length) (hp : (i, j) ≠ (S.length, R.length)) (hn : n ≤ 6) (hk : k < 6) (hq : aftI S R (i, j) k = some (a, c))
    (hpre : pre ++ [(k, a, c)] = nextTo S R (i, j) n) (hno : ∀ y ∈ pre, bestB S R (i, j) y = false) (hyes : bestB S R (i, j) (k, a, c) = true) : firstI S R (i, j) = k :: firstI S R (a, c) := by
  have hin := aftI_in hk h1 h2 hq
  obtain ⟨r, hr⟩ := nextTo_pre (S := S) (R := R) (p := (i, j)) n (6 - n)
  rw [show n + (6 - n) = 6 by omega, ← hpre] at hr
  have hf : (nextI S R (i, j)).find? (bestB S R (i, j)) = some (k, a, c) := by
    show (nextTo S R (i, j) 6).find? _ = _
    rw [hr, List.find?_append, List.find?_append]
    have h0 : pre.find? (bestB S R (i, j)) = none := List.find?_eq_none.2 fun y hy => by rw [hno y hy]; simp
    rw [h0]
    simp [hyes]
  unfold firstI
  cases hf' : leftN S R (i, j) with
  | zero =>
    exfalso
    apply hp
    unfold leftN at hf'
    simp only at hf'
    exact Prod.ext (by simp only; omega) (by simp only; omega)
  | succ f =>
    rw [firstF_succ, if_neg hp, hf]
    simp only
    unfold leftN at hf'
    simp only at hf'
    rw [firstF_same S R f (leftN S R (a, c)) (a, c) hin.2.1 hin.2.2.2.1 (by unfold leftN; simp only; omega) (Nat.le_refl _)]
theorem foldl_some {α : Type} {g : α → Nat} : ∀ (l : List α) (e : Nat), l.foldl (fun e x => min e (g x)) e < e → ∃ x ∈ l, g x = l.foldl (fun e x => min e (g x)) e
  | [], e, h => by simp at h
  | x :: l, e, h => by
    simp only [List.foldl_cons] at h ⊢
    by_cases h1 : l.foldl (fun e x => min e (g x)) (min e (g x)) < min e (g x)
    · obtain ⟨y, hy, he⟩ := foldl_some l _ h1
      exact ⟨y, by simp [hy], he⟩
    · have := foldl_le (g := g) l (min e (g x))
      refine ⟨x, by simp, ?_⟩
      omega
/-- Where the end can be reached, some step is the best. -/
theorem best_some {S R : By} {p : Nat × Nat} (h1 : p.1 ≤ S.length) (h2 : p.2 ≤ R.length) (hp : p ≠ (S.length, R.length)) (h : fewI S R p < 120) : ∃ x ∈ nextI S R p, bestB S R p x = true := by
  rw [fewI_eq h1 h2 hp] at h
  obtain ⟨x, hx, he⟩ := foldl_some (g := fun x : Nat × Nat × Nat => errsN x.1 + fewI S R x.2) (nextI S R p) 120 h
  refine ⟨x, hx, ?_⟩
  unfold bestB
  rw [fewI_eq h1 h2 hp, ← he]
  simp
theorem best_lt {S R : By} {p : Nat × Nat} {x : Nat × Nat × Nat} (hb : bestB S R p x = true) (h : fewI S R p < 120) : fewI S R x.2 < 120 := by
  unfold bestB at hb
  have : errsN x.1 + fewI S R x.2 = fewI S R p := by simpa using hb
  omega

/-- **A region that draws its order, whose operations may grow one block, in a round.** -/
theorem wpIn_region_grow {Fc : Fence} (hF9 : OpenF Fc) {m9 : Nat} {P : Program} {id : Nat} {Q : Exit → Act → World → Prop} {a0 : Act} {w0 : World} {l : List Oper} (n : Nat) (row : Option Nat) (Fs : List (FactR row)) (SG : World → Prop) (A : (Nat → Value) → Act)
    (hm : P.follows .mixedOrders = true) (hpl : plainB l.toArray = true) (hB : factsB .any l.toArray n = true) (hA : ∀ vs, putAll (fun _ => true) vs 0 (l.take n) a0 = A vs) (hSG : ∀ w w', SG w → Below w.heap.size w w' → SG w') (h0 : SG w0)
    (hstep : ∀ (vs : Nat → Value), Each (fun i o => ∀ w : World, w0.grownBy w row → SG w → (∀ d, d < n → leansOn l.toArray o d = true → (Fs.getD d (FactR.any row)).p (vs d) w) →
      if Region.wanted o (yielded l.toArray (A vs).tmps) = true then Gives P o (A vs) w (fun v w' => w.grownBy w' row ∧ SG w' ∧ (Fs.getD i (FactR.any row)).p v w') else (Fs.getD i (FactR.any row)).p undef w) 0 (l.take n))
    (htail : ∀ (vs : Nat → Value) (w : World), w0.grownBy w row → SG w → (∀ d, d < n → (Fs.getD d (FactR.any row)).p (vs d) w) → wpList P l.toArray (fun e a w => e = .normal ∧ Q .normal a w) (l.drop n) (A vs) w) :
    (Code.region id l.toArray true).wpIn Fc m9 P Q a0 w0 := by
  refine wpIn_region_facts hF9 n (fun w w' => w.grownBy w' row ∧ (SG w → SG w')) (fun i v w => (Fs.getD i (FactR.any row)).p v w) hm hpl hB ⟨(grown_of_below (Below.refl _ _).drew).but row, fun h => hSG _ _ h (Below.refl _ _).drew⟩
    (fun a b c h k => ⟨h.1.trans k.1, fun x => k.2 (h.2 x)⟩) (fun i v w w' h k => (Fs.getD i (FactR.any row)).st v w w' h k.1) (fun _ => false) (fun _ _ h => h.1.size) (fun i v w h => by cases h) ?_ ?_
  · intro vs
    have hg : ∀ (l' : List Oper) (k : Nat), Each (fun i o => ∀ w : World, w0.grownBy w row → SG w → (∀ d, d < n → leansOn l.toArray o d = true → (Fs.getD d (FactR.any row)).p (vs d) w) →
        if Region.wanted o (yielded l.toArray (A vs).tmps) = true then Gives P o (A vs) w (fun v w' => w.grownBy w' row ∧ SG w' ∧ (Fs.getD i (FactR.any row)).p v w') else (Fs.getD i (FactR.any row)).p undef w) k l' →
        Each (fun i o => ∀ w : World, (w0.grownBy w row ∧ (SG w0 → SG w)) → (∀ d, d < n → leansOn l.toArray o d = true → (Fs.getD d (FactR.any row)).p (vs d) w) →
        if Region.wanted o (yielded l.toArray (putAll (fun _ => true) vs 0 (l.take n) a0).tmps) = true then Gives P o (putAll (fun _ => true) vs 0 (l.take n) a0) w (fun v w' => (w.grownBy w' row ∧ (SG w → SG w')) ∧ (Fs.getD i (FactR.any row)).p v w' ∧ (false = true → w.heap.size ≤ blk v)) else (Fs.getD i (FactR.any row)).p undef w ∧ (w.grownBy w row ∧ (SG w → SG w)) ∧ false = false) k l' := by
      intro l'
      induction l' with
      | nil => intro k _; trivial
      | cons o r ih =>
        intro k h
        refine ⟨fun w hw hd => ?_, ih _ h.2⟩
        have h1 := h.1 w hw.1 (hw.2 h0) hd
        rw [hA vs]
        split
        · rename_i hw'; rw [if_pos hw'] at h1; exact h1.mono fun v w' ⟨x1, x2, x3⟩ => ⟨⟨x1, fun _ => x2⟩, x3, fun h => by cases h⟩
        · rename_i hw'; rw [if_neg hw'] at h1; exact ⟨h1, ⟨(grown_of_below (Below.refl _ _)).but row, fun h => h⟩, rfl⟩
    exact hg _ _ (hstep vs)
  · intro vs w hw hd _ _
    rw [hA vs]
    exact htail vs w hw.1 (hw.2 h0) hd

/-- **A region that draws its order, by an invariant of the caller's own on what has come, in a round.** -/
theorem wpIn_region_inv {Fc : Fence} (hF9 : OpenF Fc) {m9 : Nat} {P : Program} {id : Nat} {Q : Exit → Act → World → Prop} {a0 : Act} {w0 : World} {l : List Oper} (n : Nat) (Inv : (Nat → Bool) → (Nat → Value) → World → Prop) (A : (Nat → Value) → Act)
    (hm : P.follows .mixedOrders = true) (hpl : plainB l.toArray = true) (hB : factsB .any l.toArray n = true) (hA : ∀ vs, putAll (fun _ => true) vs 0 (l.take n) a0 = A vs) (h0 : Inv (fun _ => false) (fun _ => undef) w0.drew)
    (hstep : ∀ (L : Nat → Bool) (vs : Nat → Value) (w : World), Each (fun i o => L i = false → (∀ d, d < n → leansOn l.toArray o d = true → L d = true) → Inv L vs w →
      if Region.wanted o (yielded l.toArray (A vs).tmps) = true then Gives P o (A vs) w (fun v w' => Inv (fun j => if j = i then true else L j) (fun j => if j = i then v else vs j) w') else Inv (fun j => if j = i then true else L j) (fun j => if j = i then undef else vs j) w) 0 (l.take n))
    (htail : ∀ (L : Nat → Bool) (vs : Nat → Value) (w : World), (∀ d, d < n → L d = true) → Inv L vs w → wpList P l.toArray (fun e a w => e = .normal ∧ Q .normal a w) (l.drop n) (A vs) w) :
    (Code.region id l.toArray true).wpIn Fc m9 P Q a0 w0 := by
  refine wpIn_region_any hm (wpAnyIn_of hF9 (Q := fun e a w => e = .normal ∧ Q .normal a w) hpl (fun _ _ _ h => by obtain ⟨rfl, h⟩ := h; exact h) (letsOut_no _) _ _ _ _ ?_)
  have hn : n ≤ l.toArray.size := by
    simp only [factsB, Bool.and_eq_true, decide_eq_true_eq] at hB
    exact hB.1.1.1.2
  have inv0 : HeadInv .any l.toArray n (Array.replicate l.toArray.size false) :=
    ⟨by simp, fun j oj _ hl => (by rw [getD_replicate_false] at hl; cases hl), fun t _ ht => getD_in (by simpa using ht) (getD_replicate_false _ _)⟩
  have hun : unl n (Array.replicate l.toArray.size false) = n := by
    unfold unl
    rw [List.countP_eq_length.2]
    · simp
    · intro i _; rw [getD_replicate_false]; rfl
  have hput : putAll (fun i => (Array.replicate l.toArray.size false).getD i false) (fun _ => undef) 0 (l.take n) a0 = a0 := by
    have hg : ∀ (l' : List Oper) (k : Nat) (a : Act), putAll (fun i => (Array.replicate l.toArray.size false).getD i false) (fun _ => undef) k l' a = a := by
      intro l'
      induction l' with
      | nil => intro k a; rfl
      | cons o r ih => intro k a; unfold putAll; rw [getD_replicate_false, if_neg (by simp)]; exact ih _ _
    exact hg _ _ _
  have hL0 : (fun i => (Array.replicate l.toArray.size false).getD i false) = fun _ => false := funext fun i => getD_replicate_false _ _
  have := wpAny_inv (P := P) (md := .any) (ops := l.toArray) (Q := fun e a w => e = .normal ∧ Q .normal a w) (n := n) (a0 := a0) hB Inv (fun i o hi ho L vs w hLi hdep hI => ?_) (fun L vs w hall hI => ?_) n (Array.replicate l.toArray.size false) (fun _ => undef) w0.drew inv0 hun (by rw [hL0]; exact h0)
  · rw [hput, show n + (l.toArray.size - n) = l.toArray.size by omega] at this
    exact this
  · have hAA : putAll (fun _ => true) vs 0 (l.toArray.toList.take n) a0 = A vs := hA vs
    rw [hAA]
    have hE := Each.get (hstep L vs w) i o (by rw [List.getElem?_take, if_pos hi]; simpa using ho)
    rw [Nat.zero_add] at hE
    exact hE hLi hdep hI
  · have hAA : putAll (fun _ => true) vs 0 (l.toArray.toList.take n) a0 = A vs := hA vs
    rw [hAA]
    exact htail L vs w hall hI

/-- The blocks of marks are shut, all others lie as they lay. -/
def Gone (Ds : List Nat) (w W : World) : Prop := W.os = w.os ∧ W.tape = w.tape ∧ W.output = w.output ∧ W.heap.size = w.heap.size ∧ ∀ k, k ∉ Ds → W.heap[k]? = w.heap[k]?
def marksOf (Ds : List Nat) : List Deferred := Ds.map fun D => { target := .collected D, args := #[] }
/-- **Any number of marks.** -/
theorem leaves_marks {F : Fence} {n : Nat} {P : Program} {fn : Func} {tmps : Array Value} {R : Ending → World → Prop} : ∀ (Ds : List Nat) (w : World), Ds.Nodup → (∀ D ∈ Ds, w.heap[D]? = some (.deferred (some []))) → (∀ W, Gone Ds w W → LeavesIn F n P fn tmps R [] .returning W) →
    LeavesInM F n P fn tmps R (marksOf Ds) .returning w
  | [], w, _, _, h => h w ⟨rfl, rfl, rfl, rfl, fun _ _ => rfl⟩
  | D :: Ds, w, hd, hm, h => by
    obtain ⟨hD, hd'⟩ := List.nodup_cons.1 hd
    refine ⟨by simp, .inl ⟨D, _, rfl, run_takeDeferred (hm D (by simp)), ?_⟩⟩
    refine leaves_marks Ds _ hd' (fun E hE => ?_) fun W hW => h W ?_
    · have hne : E ≠ D := fun e => hD (e ▸ hE)
      exact (World.putObj_heap_other hne).trans (hm E (by simp [hE]))
    · obtain ⟨h1, h2, h3, h4, h5⟩ := hW
      refine ⟨h1, h2, h3, by rw [h4]; simp, fun k hk => ?_⟩
      simp only [List.mem_cons, not_or] at hk
      exact (h5 k hk.2).trans (World.putObj_heap_other hk.1)
end Go.Proofs.YtonekgefegfapaaGreat
