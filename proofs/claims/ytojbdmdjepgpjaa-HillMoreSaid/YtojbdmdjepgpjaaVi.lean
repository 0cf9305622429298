/-
  PLAIN: a region that draws its order, each of whose operations may make blocks of its own; copies of lands that lie apart.
-/
import Derived.Test.YtojbdmdjepgpjaaVc
import Derived.Test.YtojbdmdjepgpjaaVn
namespace Go.Proofs.Ytojbdmdjepgpjaa
open Go.RowKit

/-- What is known of a value whose blocks are those from lo to hi, and lasts while all that lies goes on lying. -/
structure FactS where
  p : Nat → Nat → Value → World → Prop
  st : ∀ lo hi v w w', p lo hi v w → Below w.heap.size w w' → p lo hi v w'
def FactS.eq (c : Value) : FactS := ⟨fun _ _ v _ => v = c, fun _ _ _ _ _ h _ => h⟩
def FactS.any : FactS := ⟨fun _ _ _ _ => True, fun _ _ _ _ _ _ _ => trivial⟩
def FactS.box (t : TypeId) (cs : Array Value) : FactS := ⟨fun lo hi v w => v = .pointer (some ⟨lo, 0, none⟩) ∧ Box w lo t cs ∧ lo < hi, fun _ _ _ _ _ h hb => ⟨h.1, h.2.1.kept hb, h.2.2⟩⟩

structure SpanInv (Fs : List FactS) (n : Nat) (w0 : World) (L : Nat → Bool) (vs : Nat → Value) (lo hi : Nat → Nat) (w : World) : Prop where
  below : Below w0.heap.size w0 w
  each : ∀ d, d < n → L d = true → (Fs.getD d FactS.any).p (lo d) (hi d) (vs d) w
  apart : ∀ d e, d < n → e < n → d ≠ e → L d = true → L e = true → hi d ≤ lo e ∨ hi e ≤ lo d
  span : ∀ d, d < n → L d = true → w0.heap.size ≤ lo d ∧ hi d ≤ w.heap.size

/-- **A region that draws its order, whose operations make blocks of their own.** -/
theorem wp_region_span {P : Program} {id : Nat} {Q : Exit → Act → World → Prop} {a0 : Act} {w0 : World} {l : List Oper} (n : Nat) (Fs : List FactS) (A : (Nat → Value) → Act)
    (hm : P.follows .mixedOrders = true) (hB : factsB .any l.toArray n = true) (hA : ∀ vs, putAll (fun _ => true) vs 0 (l.take n) a0 = A vs)
    (hstep : ∀ (vs : Nat → Value), Each (fun i o => ∀ w : World, Below w0.heap.size w0 w → (∀ d, d < n → leansOn l.toArray o d = true → ∃ lo hi, (Fs.getD d FactS.any).p lo hi (vs d) w) →
      if Region.wanted o (yielded l.toArray (A vs).tmps) = true then Gives P o (A vs) w (fun v w' => Below w.heap.size w w' ∧ (Fs.getD i FactS.any).p w.heap.size w'.heap.size v w') else (Fs.getD i FactS.any).p w.heap.size w.heap.size undef w) 0 (l.take n))
    (htail : ∀ (vs : Nat → Value) (lo hi : Nat → Nat) (w : World), SpanInv Fs n w0 (fun _ => true) vs lo hi w → wpList P l.toArray Q (l.drop n) (A vs) w) :
    (Code.region id l.toArray true).wp P Q a0 w0 := by
  refine wp_region_any hm ?_
  have hn : n ≤ l.toArray.size := by
    simp only [factsB, Bool.and_eq_true, decide_eq_true_eq] at hB
    exact hB.1.1.1.2
  have inv0 : HeadInv .any l.toArray n (Array.replicate l.toArray.size false) :=
    ⟨by simp, fun j oj _ hl => (by rw [getD_replicate_false] at hl; cases hl), fun t _ ht => getD_in (by simpa using ht) (getD_replicate_false _ _)⟩
  have hun : unl n (Array.replicate l.toArray.size false) = n := by
    unfold unl
    rw [List.countP_eq_length.2]
    · simp
    · intro i _; rw [getD_replicate_false]; rfl
  have hput : putAll (fun i => (Array.replicate l.toArray.size false).getD i false) (fun _ => undef) 0 (l.take n) a0 = a0 := by
    have hg : ∀ (l' : List Oper) (k : Nat) (a : Act), putAll (fun i => (Array.replicate l.toArray.size false).getD i false) (fun _ => undef) k l' a = a := by
      intro l'
      induction l' with
      | nil => intro k a; rfl
      | cons o r ih => intro k a; unfold putAll; rw [getD_replicate_false, if_neg (by simp)]; exact ih _ _
    exact hg _ _ _
  have h0 : ∃ lo hi, SpanInv Fs n w0 (fun i => (Array.replicate l.toArray.size false).getD i false) (fun _ => undef) lo hi w0.drew :=
    ⟨fun _ => 0, fun _ => 0, (Below.refl _ _).drew, (fun d _ h => by simp only [getD_replicate_false] at h; cases h), (fun d e _ _ _ h => by simp only [getD_replicate_false] at h; cases h), (fun d _ h => by simp only [getD_replicate_false] at h; cases h)⟩
  have := wpAny_inv (P := P) (md := .any) (ops := l.toArray) (Q := Q) (n := n) (a0 := a0) hB (fun L vs w => ∃ lo hi, SpanInv Fs n w0 L vs lo hi w) (fun i o hi' ho L vs w hLi hdep hI => ?_) (fun L vs w hall hI => ?_) n (Array.replicate l.toArray.size false) (fun _ => undef) w0.drew inv0 hun h0
  · rw [hput, show n + (l.toArray.size - n) = l.toArray.size by omega] at this
    exact this
  · have hAA : putAll (fun _ => true) vs 0 (l.toArray.toList.take n) a0 = A vs := hA vs
    rw [hAA]
    obtain ⟨lo, hi, hI⟩ := hI
    have hE := Each.get (hstep vs) i o (by rw [List.getElem?_take, if_pos hi']; simpa using ho)
    rw [Nat.zero_add] at hE
    have h1 := hE w hI.below fun d hd hl => ⟨lo d, hi d, hI.each d hd (hdep d hd hl)⟩
    have hset : ∀ {j : Nat}, j ≠ i → (if j = i then true else L j) = L j := fun h => if_neg h
    have key : ∀ v w', Below w.heap.size w w' → (Fs.getD i FactS.any).p w.heap.size w'.heap.size v w' → ∃ lo hi, SpanInv Fs n w0 (fun j => if j = i then true else L j) (fun j => if j = i then v else vs j) lo hi w' := by
      intro v w' hb hf
      refine ⟨fun j => if j = i then w.heap.size else lo j, fun j => if j = i then w'.heap.size else hi j, up_later hI.below hb, fun d hd hl => ?_, fun d e hd he hde hld hle => ?_, fun d hd hl => ?_⟩
      · by_cases hdi : d = i
        · subst hdi
          simp only [if_true]
          exact hf
        · rw [hset hdi] at hl
          rw [if_neg hdi, if_neg hdi, if_neg hdi]
          exact (Fs.getD d FactS.any).st _ _ _ _ _ (hI.each d hd hl) hb
      · by_cases hdi : d = i
        · by_cases hei : e = i
          · exact absurd (hdi.trans hei.symm) hde
          · rw [hset hei] at hle
            have h2 := (hI.span e he hle).2
            rw [if_pos hdi, if_pos hdi, if_neg hei, if_neg hei]
            exact .inr h2
        · rw [hset hdi] at hld
          by_cases hei : e = i
          · have h2 := (hI.span d hd hld).2
            rw [if_pos hei, if_pos hei, if_neg hdi, if_neg hdi]
            exact .inl h2
          · rw [hset hei] at hle
            rw [if_neg hdi, if_neg hdi, if_neg hei, if_neg hei]
            exact hI.apart d e hd he hde hld hle
      · by_cases hdi : d = i
        · rw [if_pos hdi, if_pos hdi]
          exact ⟨hI.below.size, Nat.le_refl _⟩
        · rw [hset hdi] at hl
          rw [if_neg hdi, if_neg hdi]
          have h2 := hI.span d hd hl
          exact ⟨h2.1, Nat.le_trans h2.2 hb.size⟩
    split
    · rename_i hw
      rw [if_pos hw] at h1
      exact h1.mono fun v w' ⟨hb, hf⟩ => key v w' hb hf
    · rename_i hw
      rw [if_neg hw] at h1
      exact key undef w (Below.refl _ _) h1
  · have hAA : putAll (fun _ => true) vs 0 (l.toArray.toList.take n) a0 = A vs := hA vs
    rw [hAA]
    obtain ⟨lo, hi, hI⟩ := hI
    exact htail vs lo hi w ⟨hI.below, fun d hd _ => hI.each d hd (hall d hd), fun d e hd he hde _ _ => hI.apart d e hd he hde (hall d hd) (hall e he), fun d hd _ => hI.span d hd (hall d hd)⟩

/-- The slices of a land. -/
abbrev parts (u1 u2 u3 u4 : Value) (c : List (Value × List Cl)) : List Value := u1 :: u2 :: u3 :: u4 :: c.map (·.1)
/-- None of the blocks is one of those from lo to hi. -/
def Off (lo hi : Nat) (l : List Value) : Prop := ∀ v ∈ l, ∀ b, v.ownBlock = some b → b < lo ∨ hi ≤ b
section
variable {e1 e2 e3 e4 e5 n0 lo hi : Nat} {L : Ld} {w w2 : World} {u1 u2 u3 u4 u' : Value} {c : List (Value × List Cl)} {row : Option Nat}
theorem Cop.lts (h : Cop e1 e2 e3 e4 e5 n0 L w u1 u2 u3 u4 c) : ∀ v ∈ parts u1 u2 u3 u4 c, ∀ b, v.ownBlock = some b → n0 ≤ b ∧ b < w.heap.size := by
  intro v hv b hb
  simp only [parts, List.mem_cons, List.mem_map] at hv
  rcases hv with rfl | rfl | rfl | rfl | ⟨x, hx, rfl⟩
  · exact h.o1.lt b hb
  · exact h.o2.lt b hb
  · exact h.o3.lt b hb
  · exact h.o4.lt b hb
  · exact (h.each x hx).lt b hb
theorem Cop.but (h : Cop e1 e2 e3 e4 e5 n0 L w u1 u2 u3 u4 c) (hg : w.grownBy w2 row) (hr : ∀ b, row = some b → lo ≤ b ∧ b < hi) (ho : Off lo hi (parts u1 u2 u3 u4 c)) : Cop e1 e2 e3 e4 e5 n0 L w2 u1 u2 u3 u4 c := by
  have key : ∀ v ∈ parts u1 u2 u3 u4 c, v.ownBlock = none ∨ v.ownBlock ≠ row := by
    intro v hv
    cases hb : v.ownBlock with
    | none => exact .inl rfl
    | some b =>
      refine .inr fun e => ?_
      have h1 := ho v hv b hb
      have h2 := hr b e.symm
      omega
  refine ⟨h.o1.kept hg (key _ (by simp [parts])), h.o2.kept hg (key _ (by simp [parts])), h.o3.kept hg (key _ (by simp [parts])), h.o4.kept hg (key _ (by simp [parts])), h.ec, fun x hx => (h.each x hx).kept hg (key _ ?_), h.apart⟩
  simp only [parts, List.mem_cons, List.mem_map]
  exact .inr (.inr (.inr (.inr ⟨x, hx, rfl⟩)))
theorem off_of {lo' hi' : Nat} {l : List Value} (hin : ∀ v ∈ l, ∀ b, v.ownBlock = some b → lo' ≤ b ∧ b < hi') (ha : hi' ≤ lo ∨ hi ≤ lo') : Off lo hi l := fun v hv b hb => by
  have := hin v hv b hb
  omega
theorem Off.second {l : List (Value × List Cl)} (h : Off lo hi (parts u1 u2 u3 u4 l)) (hn : ∀ b, u'.ownBlock = some b → b < lo ∨ hi ≤ b) : Off lo hi (parts u1 u' u3 u4 l) := by
  intro v hv b hb
  simp only [parts, List.mem_cons] at hv
  rcases hv with rfl | rfl | hv
  · exact h _ (by simp [parts]) b hb
  · exact hn b hb
  · exact h v (by simp only [parts, List.mem_cons]; exact .inr (.inr hv)) b hb
theorem Off.case {l : List (Value × List Cl)} {k : Nat} {q : List Cl} (h : Off lo hi (parts u1 u2 u3 u4 l)) (hn : ∀ b, u'.ownBlock = some b → b < lo ∨ hi ≤ b) : Off lo hi (parts u1 u2 u3 u4 (l.set k (u', q))) := by
  intro v hv b hb
  simp only [parts, List.mem_cons, List.mem_map] at hv
  rcases hv with rfl | rfl | rfl | rfl | ⟨x, hx, rfl⟩
  · exact h _ (by simp [parts]) b hb
  · exact h _ (by simp [parts]) b hb
  · exact h _ (by simp [parts]) b hb
  · exact h _ (by simp [parts]) b hb
  · rcases List.mem_or_eq_of_mem_set hx with hm | rfl
    · exact h x.1 (by simp only [parts, List.mem_cons, List.mem_map]; exact .inr (.inr (.inr (.inr ⟨x, hm, rfl⟩)))) b hb
    · exact hn b hb
end
def FactS.cop (L : Ld) : FactS := ⟨fun lo hi v w => ∃ u1 u2 u3 u4 c, v = .agg #[u1, u2, u3, u4] ∧ Cop 74 79 80 60 82 lo L w u1 u2 u3 u4 c ∧ (∀ x ∈ parts u1 u2 u3 u4 c, ∀ b, x.ownBlock = some b → lo ≤ b ∧ b < hi) ∧ lo ≤ hi,
  fun _ _ _ _ _ ⟨u1, u2, u3, u4, c, h, h1, h2⟩ hb => ⟨u1, u2, u3, u4, c, h, h1.kept hb, h2⟩⟩

end Go.Proofs.Ytojbdmdjepgpjaa
