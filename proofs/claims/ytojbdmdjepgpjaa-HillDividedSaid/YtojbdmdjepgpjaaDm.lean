/-
  HillDivided holds: if the ends of a wall are exchanged, or the wall is divided into two at a place on it, the same lines are blocked. No condition.
-/
import Derived.Test.YtojbdmdjepgpjaaVc
import Derived.Test.YtojbdmdjepgpjaaVn
import Derived.Test.YtojbdmdjepgpjaaMe
import Derived.Test.YtojbdmdjepgpjaaVr
import Derived.Test.YtojbdmdjepgpjaaLt
import Derived.Test.YtojbdmdjepgpjaaAp
import Derived.Test.YtojbdmdjepgpjaaSe
import Derived.Test.YtojbdmdjepgpjaaUp
namespace Go.Proofs.Ytojbdmdjepgpjaa
open Go.RowKit

/-- What is known of a value whose blocks are those from lo to hi, and lasts while all that lies goes on lying. -/
structure FactS where
  p : Nat → Nat → Value → World → Prop
  st : ∀ lo hi v w w', p lo hi v w → Below w.heap.size w w' → p lo hi v w'
def FactS.eq (c : Value) : FactS := ⟨fun _ _ v _ => v = c, fun _ _ _ _ _ h _ => h⟩
def FactS.any : FactS := ⟨fun _ _ _ _ => True, fun _ _ _ _ _ _ _ => trivial⟩
def FactS.box (t : TypeId) (cs : Array Value) : FactS := ⟨fun lo hi v w => v = .pointer (some ⟨lo, 0, none⟩) ∧ Box w lo t cs ∧ lo < hi, fun _ _ _ _ _ h hb => ⟨h.1, h.2.1.kept hb, h.2.2⟩⟩

structure SpanInv (Fs : List FactS) (n : Nat) (w0 : World) (L : Nat → Bool) (vs : Nat → Value) (lo hi : Nat → Nat) (w : World) : Prop where
  below : Below w0.heap.size w0 w
  each : ∀ d, d < n → L d = true → (Fs.getD d FactS.any).p (lo d) (hi d) (vs d) w
  apart : ∀ d e, d < n → e < n → d ≠ e → L d = true → L e = true → hi d ≤ lo e ∨ hi e ≤ lo d
  span : ∀ d, d < n → L d = true → w0.heap.size ≤ lo d ∧ hi d ≤ w.heap.size

/-- **A region that draws its order, whose operations make blocks of their own.** -/
theorem wp_region_span {P : Program} {id : Nat} {Q : Exit → Act → World → Prop} {a0 : Act} {w0 : World} {l : List Oper} (n : Nat) (Fs : List FactS) (A : (Nat → Value) → Act)
    (hm : P.follows .mixedOrders = true) (hB : factsB .any l.toArray n = true) (hA : ∀ vs, putAll (fun _ => true) vs 0 (l.take n) a0 = A vs)
    (hstep : ∀ (vs : Nat → Value), Each (fun i o => ∀ w : World, Below w0.heap.size w0 w → (∀ d, d < n → leansOn l.toArray o d = true → ∃ lo hi, (Fs.getD d FactS.any).p lo hi (vs d) w) →
      if Region.wanted o (yielded l.toArray (A vs).tmps) = true then Gives P o (A vs) w (fun v w' => Below w.heap.size w w' ∧ (Fs.getD i FactS.any).p w.heap.size w'.heap.size v w') else (Fs.getD i FactS.any).p w.heap.size w.heap.size undef w) 0 (l.take n))
    (htail : ∀ (vs : Nat → Value) (lo hi : Nat → Nat) (w : World), SpanInv Fs n w0 (fun _ => true) vs lo hi w → wpList P l.toArray Q (l.drop n) (A vs) w) :
    (Code.region id l.toArray true).wp P Q a0 w0 := by
  refine wp_region_any hm ?_
  have hn : n ≤ l.toArray.size := by
    simp only [factsB, Bool.and_eq_true, decide_eq_true_eq] at hB
    exact hB.1.1.1.2
  have inv0 : HeadInv .any l.toArray n (Array.replicate l.toArray.size false) :=
    ⟨by simp, fun j oj _ hl => (by rw [getD_replicate_false] at hl; cases hl), fun t _ ht => getD_in (by simpa using ht) (getD_replicate_false _ _)⟩
  have hun : unl n (Array.replicate l.toArray.size false) = n := by
    unfold unl
    rw [List.countP_eq_length.2]
    · simp
    · intro i _; rw [getD_replicate_false]; rfl
  have hput : putAll (fun i => (Array.replicate l.toArray.size false).getD i false) (fun _ => undef) 0 (l.take n) a0 = a0 := by
    have hg : ∀ (l' : List Oper) (k : Nat) (a : Act), putAll (fun i => (Array.replicate l.toArray.size false).getD i false) (fun _ => undef) k l' a = a := by
      intro l'
      induction l' with
      | nil => intro k a; rfl
      | cons o r ih => intro k a; unfold putAll; rw [getD_replicate_false, if_neg (by simp)]; exact ih _ _
    exact hg _ _ _
  have h0 : ∃ lo hi, SpanInv Fs n w0 (fun i => (Array.replicate l.toArray.size false).getD i false) (fun _ => undef) lo hi w0.drew :=
    ⟨fun _ => 0, fun _ => 0, (Below.refl _ _).drew, (fun d _ h => by simp only [getD_replicate_false] at h; cases h), (fun d e _ _ _ h => by simp only [getD_replicate_false] at h; cases h), (fun d _ h => by simp only [getD_replicate_false] at h; cases h)⟩
  have := wpAny_inv (P := P) (md := .any) (ops := l.toArray) (Q := Q) (n := n) (a0 := a0) hB (fun L vs w => ∃ lo hi, SpanInv Fs n w0 L vs lo hi w) (fun i o hi' ho L vs w hLi hdep hI => ?_) (fun L vs w hall hI => ?_) n (Array.replicate l.toArray.size false) (fun _ => undef) w0.drew inv0 hun h0
  · rw [hput, show n + (l.toArray.size - n) = l.toArray.size by omega] at this
    exact this
  · have hAA : putAll (fun _ => true) vs 0 (l.toArray.toList.take n) a0 = A vs := hA vs
    rw [hAA]
    obtain ⟨lo, hi, hI⟩ := hI
    have hE := Each.get (hstep vs) i o (by rw [List.getElem?_take, if_pos hi']; simpa using ho)
    rw [Nat.zero_add] at hE
    have h1 := hE w hI.below fun d hd hl => ⟨lo d, hi d, hI.each d hd (hdep d hd hl)⟩
    have hset : ∀ {j : Nat}, j ≠ i → (if j = i then true else L j) = L j := fun h => if_neg h
    have key : ∀ v w', Below w.heap.size w w' → (Fs.getD i FactS.any).p w.heap.size w'.heap.size v w' → ∃ lo hi, SpanInv Fs n w0 (fun j => if j = i then true else L j) (fun j => if j = i then v else vs j) lo hi w' := by
      intro v w' hb hf
      refine ⟨fun j => if j = i then w.heap.size else lo j, fun j => if j = i then w'.heap.size else hi j, up_later hI.below hb, fun d hd hl => ?_, fun d e hd he hde hld hle => ?_, fun d hd hl => ?_⟩
      · by_cases hdi : d = i
        · subst hdi
          simp only [if_true]
          exact hf
        · rw [hset hdi] at hl
          rw [if_neg hdi, if_neg hdi, if_neg hdi]
          exact (Fs.getD d FactS.any).st _ _ _ _ _ (hI.each d hd hl) hb
      · by_cases hdi : d = i
        · by_cases hei : e = i
          · exact absurd (hdi.trans hei.symm) hde
          · rw [hset hei] at hle
            have h2 := (hI.span e he hle).2
            rw [if_pos hdi, if_pos hdi, if_neg hei, if_neg hei]
            exact .inr h2
        · rw [hset hdi] at hld
          by_cases hei : e = i
          · have h2 := (hI.span d hd hld).2
            rw [if_pos hei, if_pos hei, if_neg hdi, if_neg hdi]
            exact .inl h2
          · rw [hset hei] at hle
            rw [if_neg hdi, if_neg hdi, if_neg hei, if_neg hei]
            exact hI.apart d e hd he hde hld hle
      · by_cases hdi : d = i
        · rw [if_pos hdi, if_pos hdi]
          exact ⟨hI.below.size, Nat.le_refl _⟩
        · rw [hset hdi] at hl
          rw [if_neg hdi, if_neg hdi]
          have h2 := hI.span d hd hl
          exact ⟨h2.1, Nat.le_trans h2.2 hb.size⟩
    split
    · rename_i hw
      rw [if_pos hw] at h1
      exact h1.mono fun v w' ⟨hb, hf⟩ => key v w' hb hf
    · rename_i hw
      rw [if_neg hw] at h1
      exact key undef w (Below.refl _ _) h1
  · have hAA : putAll (fun _ => true) vs 0 (l.toArray.toList.take n) a0 = A vs := hA vs
    rw [hAA]
    obtain ⟨lo, hi, hI⟩ := hI
    exact htail vs lo hi w ⟨hI.below, fun d hd _ => hI.each d hd (hall d hd), fun d e hd he hde _ _ => hI.apart d e hd he hde (hall d hd) (hall e he), fun d hd _ => hI.span d hd (hall d hd)⟩

/-- The slices of a land. -/
abbrev parts (u1 u2 u3 u4 : Value) (c : List (Value × List Cl)) : List Value := u1 :: u2 :: u3 :: u4 :: c.map (·.1)
/-- None of the blocks is one of those from lo to hi. -/
def Off (lo hi : Nat) (l : List Value) : Prop := ∀ v ∈ l, ∀ b, v.ownBlock = some b → b < lo ∨ hi ≤ b
section
variable {e1 e2 e3 e4 e5 n0 lo hi : Nat} {L : Ld} {w w2 : World} {u1 u2 u3 u4 u' : Value} {c : List (Value × List Cl)} {row : Option Nat}
theorem Cop.lts (h : Cop e1 e2 e3 e4 e5 n0 L w u1 u2 u3 u4 c) : ∀ v ∈ parts u1 u2 u3 u4 c, ∀ b, v.ownBlock = some b → n0 ≤ b ∧ b < w.heap.size := by
  intro v hv b hb
  simp only [parts, List.mem_cons, List.mem_map] at hv
  rcases hv with rfl | rfl | rfl | rfl | ⟨x, hx, rfl⟩
  · exact h.o1.lt b hb
  · exact h.o2.lt b hb
  · exact h.o3.lt b hb
  · exact h.o4.lt b hb
  · exact (h.each x hx).lt b hb
theorem Cop.but (h : Cop e1 e2 e3 e4 e5 n0 L w u1 u2 u3 u4 c) (hg : w.grownBy w2 row) (hr : ∀ b, row = some b → lo ≤ b ∧ b < hi) (ho : Off lo hi (parts u1 u2 u3 u4 c)) : Cop e1 e2 e3 e4 e5 n0 L w2 u1 u2 u3 u4 c := by
  have key : ∀ v ∈ parts u1 u2 u3 u4 c, v.ownBlock = none ∨ v.ownBlock ≠ row := by
    intro v hv
    cases hb : v.ownBlock with
    | none => exact .inl rfl
    | some b =>
      refine .inr fun e => ?_
      have h1 := ho v hv b hb
      have h2 := hr b e.symm
      omega
  refine ⟨h.o1.kept hg (key _ (by simp [parts])), h.o2.kept hg (key _ (by simp [parts])), h.o3.kept hg (key _ (by simp [parts])), h.o4.kept hg (key _ (by simp [parts])), h.ec, fun x hx => (h.each x hx).kept hg (key _ ?_), h.apart⟩
  simp only [parts, List.mem_cons, List.mem_map]
  exact .inr (.inr (.inr (.inr ⟨x, hx, rfl⟩)))
theorem off_of {lo' hi' : Nat} {l : List Value} (hin : ∀ v ∈ l, ∀ b, v.ownBlock = some b → lo' ≤ b ∧ b < hi') (ha : hi' ≤ lo ∨ hi ≤ lo') : Off lo hi l := fun v hv b hb => by
  have := hin v hv b hb
  omega
theorem Off.second {l : List (Value × List Cl)} (h : Off lo hi (parts u1 u2 u3 u4 l)) (hn : ∀ b, u'.ownBlock = some b → b < lo ∨ hi ≤ b) : Off lo hi (parts u1 u' u3 u4 l) := by
  intro v hv b hb
  simp only [parts, List.mem_cons] at hv
  rcases hv with rfl | rfl | hv
  · exact h _ (by simp [parts]) b hb
  · exact hn b hb
  · exact h v (by simp only [parts, List.mem_cons]; exact .inr (.inr hv)) b hb
theorem Off.case {l : List (Value × List Cl)} {k : Nat} {q : List Cl} (h : Off lo hi (parts u1 u2 u3 u4 l)) (hn : ∀ b, u'.ownBlock = some b → b < lo ∨ hi ≤ b) : Off lo hi (parts u1 u2 u3 u4 (l.set k (u', q))) := by
  intro v hv b hb
  simp only [parts, List.mem_cons, List.mem_map] at hv
  rcases hv with rfl | rfl | rfl | rfl | ⟨x, hx, rfl⟩
  · exact h _ (by simp [parts]) b hb
  · exact h _ (by simp [parts]) b hb
  · exact h _ (by simp [parts]) b hb
  · exact h _ (by simp [parts]) b hb
  · rcases List.mem_or_eq_of_mem_set hx with hm | rfl
    · exact h x.1 (by simp only [parts, List.mem_cons, List.mem_map]; exact .inr (.inr (.inr (.inr ⟨x, hm, rfl⟩)))) b hb
    · exact hn b hb
end
def FactS.cop (L : Ld) : FactS := ⟨fun lo hi v w => ∃ u1 u2 u3 u4 c, v = .agg #[u1, u2, u3, u4] ∧ Cop 74 79 80 60 82 lo L w u1 u2 u3 u4 c ∧ (∀ x ∈ parts u1 u2 u3 u4 c, ∀ b, x.ownBlock = some b → lo ≤ b ∧ b < hi) ∧ lo ≤ hi,
  fun _ _ _ _ _ ⟨u1, u2, u3, u4, c, h, h1, h2⟩ hb => ⟨u1, u2, u3, u4, c, h, h1.kept hb, h2⟩⟩

end Go.Proofs.Ytojbdmdjepgpjaa

namespace Go.Proofs.Ytojbdmdjepgpjaa
open Go.RowKit

/-- All answers about two stations are the same in both lands, and there is no error. -/
structure Alike (L M : Ld) (i j : Nat) : Prop where
  always : ∃ l, alwaysE L i j = (l, 0) ∧ alwaysE M i j = (l, 0)
  rise : riseI M i j = riseI L i j
  walls : ∀ k t : Nat, k < L.cs.length → t < L.sn.length → ∃ p q, wallsE L i j k t = (p, q, 0) ∧ wallsE M i j k t = (p, q, 0)
  why : ∀ k t : Nat, k < L.cs.length → t < L.sn.length → ∃ r n, whyE L i j k t = (r, n, 0) ∧ whyE M i j k t = (r, n, 0)

set_option maxRecDepth 100000 in
set_option maxHeartbeats 4000000 in
theorem alike_any (v1 v2 v3 v4 u1 u2 u3 u4 : Value) (L M : Ld) (c d : List (Value × List Cl)) (i j : Nat) (w : World) (hL : LandAt w v1 v2 v3 v4 L c) (hM : LandAt w u1 u2 u3 u4 M d) (hA : Alike L M i j) :
    Calls Try.prog 42 #[.agg #[v1, v2, v3, v4], .agg #[u1, u2, u3, u4], .int .i64 i, .int .i64 j] w fun e w' => e = .returned (.bool true) ∧ Below w.heap.size w w' := by
  have HL := Lib.hid hL
  have HM := Lib.hid hM
  have HA := Lib.hid hA
  obtain ⟨_, A1, cap1, rfl, _, _⟩ := hL.st.form
  obtain ⟨_, A2, cap2, rfl, _, _⟩ := hL.rg.form
  obtain ⟨_, A3, cap3, rfl, _, _⟩ := hL.cs.form
  obtain ⟨_, A4, cap4, rfl, _, _⟩ := hL.sn.form
  obtain ⟨_, E1, dap1, rfl, _, _⟩ := hM.st.form
  obtain ⟨_, E2, dap2, rfl, _, _⟩ := hM.rg.form
  obtain ⟨_, E3, dap3, rfl, _, _⟩ := hM.cs.form
  obtain ⟨_, E4, dap4, rfl, _, _⟩ := hM.sn.form
  have Hcl := Lib.hid (cs_len hL.eq)
  obtain ⟨al, ha1, ha2⟩ := hA.always
  have HA1 := Lib.hid ha1
  have HA2 := Lib.hid ha2
  obtain ⟨⟨r, g⟩, hr1⟩ : ∃ q, riseI L i j = q := ⟨_, rfl⟩
  have HR1 := Lib.hid hr1
  have HR2 := Lib.hid (hA.rise.trans hr1)
  have rr : (r != r) = false := by simp
  have gg : (g != g) = false := by simp
  clear hL hM hA ha1 ha2 hr1
  go_enter Try.func42, Try.ntmps42
  go_wp2_with fail
  have BX := Lib.hid ((Box.new (w := w) (t := 27) (cs := #[.slice A1 L.st.length cap1, .slice A2 L.rg.length cap2, .slice A3 c.length cap3, .slice A4 L.sn.length cap4]) rfl).alloc (.cells #[.slice E1 M.st.length dap1, .slice E2 M.rg.length dap2, .slice E3 d.length dap3, .slice E4 M.sn.length dap4] 27))
  have BM := Lib.hid (Box.new (w := w.alloc (.cells #[.slice A1 L.st.length cap1, .slice A2 L.rg.length cap2, .slice A3 c.length cap3, .slice A4 L.sn.length cap4] 27)) (g := w.heap.size + 1) (t := 27) (cs := #[.slice E1 M.st.length dap1, .slice E2 M.rg.length dap2, .slice E3 d.length dap3, .slice E4 M.sn.length dap4]) (by simp))
  have HB := Lib.hid (up_alloc (up_alloc (up0 (w := w)) (.cells #[.slice A1 L.st.length cap1, .slice A2 L.rg.length cap2, .slice A3 c.length cap3, .slice A4 L.sn.length cap4] 27)) (.cells #[.slice E1 M.st.length dap1, .slice E2 M.rg.length dap2, .slice E3 d.length dap3, .slice E4 M.sn.length dap4] 27))
  have HL := Lib.hid (HL.out.kept HB.out)
  have HM := Lib.hid (HM.out.kept HB.out)
  refine (Land_any _ _ _ _ _ _ _ HL.out).mono ?_
  rintro e ya ⟨a1, a2, a3, a4, ca, rfl, hl, hb⟩
  have Hl := Lib.hid hl
  clear hl
  have HB := Lib.hid (up_later HB.out hb)
  have HL := Lib.hid (HL.out.kept hb)
  have HM := Lib.hid (HM.out.kept hb)
  have BX := Lib.hid (BX.out.kept hb)
  have BM := Lib.hid (BM.out.kept hb)
  clear hb
  go_wp2_with fail
  have AA := Always_any _ _ _ _ L _ i j ya Hl.out
  rw [HA1.out] at AA
  refine AA.mono ?_
  rintro e yb ⟨u, rfl, hr, hb⟩
  obtain ⟨_, Aa, pa, rfl, _, _⟩ := hr.form
  have HP := Lib.hid hr
  clear AA Hl hr
  have HB := Lib.hid (up_later HB.out hb)
  have HL := Lib.hid (HL.out.kept hb)
  have HM := Lib.hid (HM.out.kept hb)
  have BX := Lib.hid (BX.out.kept hb)
  have BM := Lib.hid (BM.out.kept hb)
  clear hb
  have BB := BM.out
  have cB := fun i => BB.cell i
  go_wp2_with fail
  clear cB BB
  refine (Land_any _ _ _ _ _ _ _ HM.out).mono ?_
  rintro e ya ⟨a1, a2, a3, a4, ca, rfl, hl, hb⟩
  have Hl := Lib.hid hl
  clear hl
  have HB := Lib.hid (up_later HB.out hb)
  have HL := Lib.hid (HL.out.kept hb)
  have HM := Lib.hid (HM.out.kept hb)
  have BX := Lib.hid (BX.out.kept hb)
  have BM := Lib.hid (BM.out.kept hb)
  have HP := Lib.hid (HP.out.kept hb)
  clear hb
  go_wp2_with fail
  have AA := Always_any _ _ _ _ M _ i j ya Hl.out
  rw [HA2.out] at AA
  refine AA.mono ?_
  rintro e yb ⟨u, rfl, hr, hb⟩
  obtain ⟨_, Ab, pb, rfl, _, _⟩ := hr.form
  have HQ := Lib.hid hr
  clear AA Hl hr
  have HB := Lib.hid (up_later HB.out hb)
  have HL := Lib.hid (HL.out.kept hb)
  have HM := Lib.hid (HM.out.kept hb)
  have BX := Lib.hid (BX.out.kept hb)
  have BM := Lib.hid (BM.out.kept hb)
  have HP := Lib.hid (HP.out.kept hb)
  clear hb
  have BB := BX.out
  have cB := fun i => BB.cell i
  go_wp2_with fail
  clear cB BB
  refine (Land_any _ _ _ _ _ _ _ HL.out).mono ?_
  rintro e ya ⟨a1, a2, a3, a4, ca, rfl, hl, hb⟩
  have Hl := Lib.hid hl
  clear hl
  have HB := Lib.hid (up_later HB.out hb)
  have HL := Lib.hid (HL.out.kept hb)
  have HM := Lib.hid (HM.out.kept hb)
  have BX := Lib.hid (BX.out.kept hb)
  have BM := Lib.hid (BM.out.kept hb)
  have HP := Lib.hid (HP.out.kept hb)
  have HQ := Lib.hid (HQ.out.kept hb)
  clear hb
  go_wp2_with fail
  have AA := Rise_any _ _ _ _ L _ i j ya Hl.out
  rw [HR1.out] at AA
  refine AA.mono ?_
  rintro e yb ⟨rfl, hb⟩
  clear AA Hl
  have HB := Lib.hid (up_later HB.out hb)
  have HL := Lib.hid (HL.out.kept hb)
  have HM := Lib.hid (HM.out.kept hb)
  have BX := Lib.hid (BX.out.kept hb)
  have BM := Lib.hid (BM.out.kept hb)
  have HP := Lib.hid (HP.out.kept hb)
  have HQ := Lib.hid (HQ.out.kept hb)
  clear hb
  have BB := BM.out
  have cB := fun i => BB.cell i
  go_wp2_with fail
  clear cB BB
  refine (Land_any _ _ _ _ _ _ _ HM.out).mono ?_
  rintro e ya ⟨a1, a2, a3, a4, ca, rfl, hl, hb⟩
  have Hl := Lib.hid hl
  clear hl
  have HB := Lib.hid (up_later HB.out hb)
  have HL := Lib.hid (HL.out.kept hb)
  have HM := Lib.hid (HM.out.kept hb)
  have BX := Lib.hid (BX.out.kept hb)
  have BM := Lib.hid (BM.out.kept hb)
  have HP := Lib.hid (HP.out.kept hb)
  have HQ := Lib.hid (HQ.out.kept hb)
  clear hb
  go_wp2_with fail
  have AA := Rise_any _ _ _ _ M _ i j ya Hl.out
  rw [HR2.out] at AA
  refine AA.mono ?_
  rintro e yb ⟨rfl, hb⟩
  clear AA Hl
  have HB := Lib.hid (up_later HB.out hb)
  have HL := Lib.hid (HL.out.kept hb)
  have HM := Lib.hid (HM.out.kept hb)
  have BX := Lib.hid (BX.out.kept hb)
  have BM := Lib.hid (BM.out.kept hb)
  have HP := Lib.hid (HP.out.kept hb)
  have HQ := Lib.hid (HQ.out.kept hb)
  clear hb
  have tt := Lib.hid (beq_self_eq_true al)
  go_wp2_with fail
  refine (ints_any _ _ _ _ _ HP.out HQ.out).mono ?_
  rintro e yc ⟨rfl, hb⟩
  rw [tt.out]
  clear HP HQ tt
  have HB := Lib.hid (up_later HB.out hb)
  have HL := Lib.hid (HL.out.kept hb)
  have HM := Lib.hid (HM.out.kept hb)
  have BX := Lib.hid (BX.out.kept hb)
  have BM := Lib.hid (BM.out.kept hb)
  clear hb
  go_wp2_with fail
  go_loopw [17] (fun q wr => ∃ m : Nat, m ≤ c.length ∧ q = .int .i64 m ∧ Hid (Below w.heap.size w wr) ∧ Hid (LandAt wr (.slice A1 L.st.length cap1) (.slice A2 L.rg.length cap2) (.slice A3 c.length cap3) (.slice A4 L.sn.length cap4) L c) ∧ Hid (LandAt wr (.slice E1 M.st.length dap1) (.slice E2 M.rg.length dap2) (.slice E3 d.length dap3) (.slice E4 M.sn.length dap4) M d) ∧ Hid (Box wr w.heap.size 27 #[.slice A1 L.st.length cap1, .slice A2 L.rg.length cap2, .slice A3 c.length cap3, .slice A4 L.sn.length cap4]) ∧ Hid (Box wr (w.heap.size + 1) 27 #[.slice E1 M.st.length dap1, .slice E2 M.rg.length dap2, .slice E3 d.length dap3, .slice E4 M.sn.length dap4])) (fun q _ => c.length - (intOf q).toNat)
  case atStart => exact ⟨0, by omega, rfl, HB.out, HL.out, HM.out, BX.out, BM.out⟩
  case round =>
    clear HB HL HM BX BM
    obtain ⟨k, hk, rfl, HB, HL, HM, BX, BM⟩ := hrel
    have k0 : (0 : Int) ≤ (k : Int) := by omega
    by_cases hlt : k < c.length
    · have k1 : (k : Int) < (c.length : Int) := by omega
      have hkc : k < L.cs.length := by have := Hcl.out; omega
      have Hkc := Lib.hid hkc
      clear hkc
      have BB := BX.out
      have cB := fun i => BB.cell i
      go_wp2_with fail
      clear cB BB
      go_loopw [18] (fun q wi => ∃ m : Nat, m ≤ L.sn.length ∧ q = .int .i64 m ∧ Hid (Below w.heap.size w wi) ∧ Hid (LandAt wi (.slice A1 L.st.length cap1) (.slice A2 L.rg.length cap2) (.slice A3 c.length cap3) (.slice A4 L.sn.length cap4) L c) ∧ Hid (LandAt wi (.slice E1 M.st.length dap1) (.slice E2 M.rg.length dap2) (.slice E3 d.length dap3) (.slice E4 M.sn.length dap4) M d) ∧ Hid (Box wi w.heap.size 27 #[.slice A1 L.st.length cap1, .slice A2 L.rg.length cap2, .slice A3 c.length cap3, .slice A4 L.sn.length cap4]) ∧ Hid (Box wi (w.heap.size + 1) 27 #[.slice E1 M.st.length dap1, .slice E2 M.rg.length dap2, .slice E3 d.length dap3, .slice E4 M.sn.length dap4])) (fun q _ => L.sn.length - (intOf q).toNat)
      case atStart => exact ⟨0, by omega, rfl, HB.out, HL.out, HM.out, BX.out, BM.out⟩
      case round =>
        clear HB HL HM BX BM
        obtain ⟨t, ht, rfl, HB, HL, HM, BX, BM⟩ := hrel
        have t0 : (0 : Int) ≤ (t : Int) := by omega
        by_cases htl : t < L.sn.length
        · have t1 : (t : Int) < (L.sn.length : Int) := by omega
          obtain ⟨p, q, hw1, hw2⟩ := HA.out.walls k t Hkc.out htl
          obtain ⟨rr, nn, hy1, hy2⟩ := HA.out.why k t Hkc.out htl
          have HW1 := Lib.hid hw1
          have HW2 := Lib.hid hw2
          have HY1 := Lib.hid hy1
          have HY2 := Lib.hid hy2
          have r2 : (rr != rr) = false := by simp
          have n2 : (nn != nn) = false := by simp
          have tp := Lib.hid (beq_self_eq_true p)
          have tq := Lib.hid (beq_self_eq_true q)
          clear hw1 hw2 hy1 hy2
          have BB := BX.out
          have cB := fun i => BB.cell i
          go_wp2_with fail
          clear cB BB
          refine (Land_any _ _ _ _ _ _ _ HL.out).mono ?_
          rintro e ya ⟨a1, a2, a3, a4, ca, rfl, hl, hb⟩
          have Hl := Lib.hid hl
          clear hl
          have HB := Lib.hid (up_later HB.out hb)
          have HL := Lib.hid (HL.out.kept hb)
          have HM := Lib.hid (HM.out.kept hb)
          have BX := Lib.hid (BX.out.kept hb)
          have BM := Lib.hid (BM.out.kept hb)
          clear hb
          go_wp2_with fail
          have AA := Walls_any _ _ _ _ L _ i j k t ya Hl.out
          rw [HW1.out] at AA
          refine AA.mono ?_
          rintro e yb ⟨p1, q1, rfl, hp, hq, hb⟩
          obtain ⟨_, Ap, pp, rfl, _, _⟩ := hp.form
          obtain ⟨_, Aq, pq, rfl, _, _⟩ := hq.form
          have HP := Lib.hid hp
          have HQ := Lib.hid hq
          clear AA Hl hp hq
          have HB := Lib.hid (up_later HB.out hb)
          have HL := Lib.hid (HL.out.kept hb)
          have HM := Lib.hid (HM.out.kept hb)
          have BX := Lib.hid (BX.out.kept hb)
          have BM := Lib.hid (BM.out.kept hb)
          clear hb
          have BB := BM.out
          have cB := fun i => BB.cell i
          go_wp2_with fail
          clear cB BB
          refine (Land_any _ _ _ _ _ _ _ HM.out).mono ?_
          rintro e ya ⟨a1, a2, a3, a4, ca, rfl, hl, hb⟩
          have Hl := Lib.hid hl
          clear hl
          have HB := Lib.hid (up_later HB.out hb)
          have HL := Lib.hid (HL.out.kept hb)
          have HM := Lib.hid (HM.out.kept hb)
          have BX := Lib.hid (BX.out.kept hb)
          have BM := Lib.hid (BM.out.kept hb)
          have HP := Lib.hid (HP.out.kept hb)
          have HQ := Lib.hid (HQ.out.kept hb)
          clear hb
          go_wp2_with fail
          have AA := Walls_any _ _ _ _ M _ i j k t ya Hl.out
          rw [HW2.out] at AA
          refine AA.mono ?_
          rintro e yb ⟨p1, q1, rfl, hp, hq, hb⟩
          obtain ⟨_, Ap2, pp2, rfl, _, _⟩ := hp.form
          obtain ⟨_, Aq2, pq2, rfl, _, _⟩ := hq.form
          have HP2 := Lib.hid hp
          have HQ2 := Lib.hid hq
          clear AA Hl hp hq
          have HB := Lib.hid (up_later HB.out hb)
          have HL := Lib.hid (HL.out.kept hb)
          have HM := Lib.hid (HM.out.kept hb)
          have BX := Lib.hid (BX.out.kept hb)
          have BM := Lib.hid (BM.out.kept hb)
          have HP := Lib.hid (HP.out.kept hb)
          have HQ := Lib.hid (HQ.out.kept hb)
          clear hb
          have BB := BX.out
          have cB := fun i => BB.cell i
          go_wp2_with fail
          clear cB BB
          refine (Land_any _ _ _ _ _ _ _ HL.out).mono ?_
          rintro e ya ⟨a1, a2, a3, a4, ca, rfl, hl, hb⟩
          have Hl := Lib.hid hl
          clear hl
          have HB := Lib.hid (up_later HB.out hb)
          have HL := Lib.hid (HL.out.kept hb)
          have HM := Lib.hid (HM.out.kept hb)
          have BX := Lib.hid (BX.out.kept hb)
          have BM := Lib.hid (BM.out.kept hb)
          have HP := Lib.hid (HP.out.kept hb)
          have HQ := Lib.hid (HQ.out.kept hb)
          have HP2 := Lib.hid (HP2.out.kept hb)
          have HQ2 := Lib.hid (HQ2.out.kept hb)
          clear hb
          go_wp2_with fail
          have AA := Why_any _ _ _ _ L _ i j k t ya Hl.out
          rw [HY1.out] at AA
          refine AA.mono ?_
          rintro e yb ⟨rfl, hb⟩
          clear AA Hl
          have HB := Lib.hid (up_later HB.out hb)
          have HL := Lib.hid (HL.out.kept hb)
          have HM := Lib.hid (HM.out.kept hb)
          have BX := Lib.hid (BX.out.kept hb)
          have BM := Lib.hid (BM.out.kept hb)
          have HP := Lib.hid (HP.out.kept hb)
          have HQ := Lib.hid (HQ.out.kept hb)
          have HP2 := Lib.hid (HP2.out.kept hb)
          have HQ2 := Lib.hid (HQ2.out.kept hb)
          clear hb
          have BB := BM.out
          have cB := fun i => BB.cell i
          go_wp2_with fail
          clear cB BB
          refine (Land_any _ _ _ _ _ _ _ HM.out).mono ?_
          rintro e ya ⟨a1, a2, a3, a4, ca, rfl, hl, hb⟩
          have Hl := Lib.hid hl
          clear hl
          have HB := Lib.hid (up_later HB.out hb)
          have HL := Lib.hid (HL.out.kept hb)
          have HM := Lib.hid (HM.out.kept hb)
          have BX := Lib.hid (BX.out.kept hb)
          have BM := Lib.hid (BM.out.kept hb)
          have HP := Lib.hid (HP.out.kept hb)
          have HQ := Lib.hid (HQ.out.kept hb)
          have HP2 := Lib.hid (HP2.out.kept hb)
          have HQ2 := Lib.hid (HQ2.out.kept hb)
          clear hb
          go_wp2_with fail
          have AA := Why_any _ _ _ _ M _ i j k t ya Hl.out
          rw [HY2.out] at AA
          refine AA.mono ?_
          rintro e yb ⟨rfl, hb⟩
          clear AA Hl
          have HB := Lib.hid (up_later HB.out hb)
          have HL := Lib.hid (HL.out.kept hb)
          have HM := Lib.hid (HM.out.kept hb)
          have BX := Lib.hid (BX.out.kept hb)
          have BM := Lib.hid (BM.out.kept hb)
          have HP := Lib.hid (HP.out.kept hb)
          have HQ := Lib.hid (HQ.out.kept hb)
          have HP2 := Lib.hid (HP2.out.kept hb)
          have HQ2 := Lib.hid (HQ2.out.kept hb)
          clear hb
          go_wp2_with fail
          refine (ints_any _ _ _ _ _ HP.out HP2.out).mono ?_
          rintro e yc ⟨rfl, hb⟩
          rw [tp.out]
          have HB := Lib.hid (up_later HB.out hb)
          have HL := Lib.hid (HL.out.kept hb)
          have HM := Lib.hid (HM.out.kept hb)
          have BX := Lib.hid (BX.out.kept hb)
          have BM := Lib.hid (BM.out.kept hb)
          have HQ := Lib.hid (HQ.out.kept hb)
          have HQ2 := Lib.hid (HQ2.out.kept hb)
          clear hb
          go_wp2_with fail
          refine (ints_any _ _ _ _ _ HQ.out HQ2.out).mono ?_
          rintro e yc ⟨rfl, hb⟩
          rw [tq.out]
          have HB := Lib.hid (up_later HB.out hb)
          have HL := Lib.hid (HL.out.kept hb)
          have HM := Lib.hid (HM.out.kept hb)
          have BX := Lib.hid (BX.out.kept hb)
          have BM := Lib.hid (BM.out.kept hb)
          clear hb
          go_wp2_with fail
          exact ⟨⟨t + 1, by omega, by go_num, HB.out, HL.out, HM.out, BX.out, BM.out⟩, by simp [intOf]; omega⟩
        · obtain rfl : t = L.sn.length := by omega
          have BB := BX.out
          have cB := fun i => BB.cell i
          go_wp2_with fail
          clear cB BB
          exact ⟨⟨k + 1, by omega, by go_num, HB.out, HL.out, HM.out, BX.out, BM.out⟩, by simp [intOf]; omega⟩
    · obtain rfl : k = c.length := by omega
      have BB := BX.out
      have cB := fun i => BB.cell i
      go_wp2_with fail
      clear cB BB
      go_ret
      exact ⟨rfl, HB.out⟩

end Go.Proofs.Ytojbdmdjepgpjaa

namespace Go.Proofs.Ytojbdmdjepgpjaa
open Go.RowKit

theorem upto_congr {p q : Nat → Bool} {n : Nat} (h : ∀ k, k < n → p k = q k) : uptoF p n = uptoF q n := by
  unfold uptoF
  congr 1
  exact List.filter_congr fun k hk => h k (List.mem_range.1 hk)
section
variable {L M : Ld} {i j : Nat}
/-- What two lands must have in common. -/
theorem alike_of (heL : errI L = 0) (heM : errI M = 0) (hi : i < L.st.length) (hj : j < L.st.length) (hij : i ≠ j) (hst : M.st.length = L.st.length) (hcs : M.cs.length = L.cs.length) (hsn : M.sn.length = L.sn.length) (hc0 : 0 < L.cs.length) (hs0 : 0 < L.sn.length)
    (hw : ∀ k t : Nat, k < L.cs.length → t < L.sn.length → whyI M i j k t = whyI L i j k t) (hr : ridgesI M i j = ridgesI L i j) (hc : ∀ k t : Nat, k < L.cs.length → cloudsI M i j k t = cloudsI L i j k t)
    (hz : (stAt M i).z = (stAt L i).z) (hl : ∀ u, clearB M (stAt M i) (stAt M j) u = clearB L (stAt L i) (stAt L j) u) : Alike L M i j := by
  have oL : ∀ k t : Nat, k < L.cs.length → t < L.sn.length → openI L k t [(i : Int), (j : Int)] = 0 := fun k t hk ht => open_zero heL hi hj hk ht hij
  have oM : ∀ k t : Nat, k < L.cs.length → t < L.sn.length → openI M k t [(i : Int), (j : Int)] = 0 := fun k t hk ht => open_zero heM (by omega) (by omega) (by omega) (by omega) hij
  have hf : ∀ k t : Nat, k < L.cs.length → t < L.sn.length → freeB M i j k t = freeB L i j k t := fun k t hk ht => by
    unfold freeB
    rw [hw k t hk ht]
  refine ⟨⟨uptoF (fun h : Nat => (stuckI L i j h).isEmpty) L.sn.length, ?_, ?_⟩, ?_, fun k t hk ht => ⟨_, _, walls_ok (oL k t hk ht), ?_⟩, fun k t hk ht => ⟨(whyI L i j k t).1, (whyI L i j k t).2, ?_, ?_⟩⟩
  · unfold alwaysE
    rw [if_neg (by have := oL 0 0 hc0 hs0; simpa using this)]
  · unfold alwaysE
    rw [if_neg (by have := oM 0 0 hc0 hs0; simpa using this), hsn]
    congr 1
    refine upto_congr fun t ht => ?_
    unfold stuckI
    rw [hcs]
    congr 1
    refine upto_congr fun k hk => ?_
    rw [hf k t hk ht]
  · unfold riseI
    have h1 := oL 0 0 hc0 hs0
    have h2 := oM 0 0 hc0 hs0
    rw [if_neg (by simpa using h2), if_neg (by simpa using h1), hz]
    have : clearB M (stAt M i) (stAt M j) = clearB L (stAt L i) (stAt L j) := funext hl
    rw [this]
  · rw [walls_ok (oM k t hk ht), hr, hc k t hk]
  · unfold whyE
    rw [if_neg (by have := oL k t hk ht; simpa using this)]
  · unfold whyE
    rw [if_neg (by have := oM k t hk ht; simpa using this), hw k t hk ht]
end
section
variable {L : Ld} {i j : Nat} {e n : Int} {q : Bool}
theorem lift_moved {s : St} {u : Nat} : lift (mvSt e n q s) u = mvSt e n q (lift s u) := by
  unfold mvSt lift
  cases q <;> rfl
theorem alike_moved (heL : errI L = 0) (heM : errI (mvLd e n q L) = 0) (hi : i < L.st.length) (hj : j < L.st.length) (hij : i ≠ j) (hc0 : 0 < L.cs.length) (hs0 : 0 < L.sn.length) : Alike L (mvLd e n q L) i j := by
  refine alike_of heL heM hi hj hij (by simp [mvLd]) (by simp [mvLd]) (by simp [mvLd]) hc0 hs0 (fun k t hk ht => why_moved hi hj ht) (ridges_moved hi hj) (fun k t hk => clouds_moved hi hj) ?_ (fun u => ?_)
  · rw [st_moved hi]
    unfold mvSt
    cases q <;> rfl
  · rw [st_moved hi, st_moved hj]
    unfold clearB
    show (!((L.rg.map (mvWl e n q)).any _)) = _
    rw [List.any_map]
    congr 2
    funext x
    show blocksW (lift (mvSt e n q _) u) _ (mvWl e n q x) = _
    rw [lift_moved, block_moved]
/-- One ridge is another one. -/
def setRg (L : Ld) (k : Nat) (x : Wl) : Ld := ⟨L.st, L.rg.set k x, L.cs, L.sn⟩
theorem set_same {k : Nat} {x y : Wl} {l : List Wl} {p : Wl → Bool} (hk : l[k]? = some y) (h : p x = p y) : (l.set k x).map p = l.map p := by
  rw [List.map_set]
  refine List.ext_getElem? fun m => ?_
  rw [List.getElem?_set]
  split
  · rename_i e
    subst e
    split
    · rw [List.getElem?_map, hk]
      simp [h]
    · rename_i h2
      rw [List.getElem?_eq_none (by simpa using h2)]
  · rfl
theorem which_maps {α β : Type} {p : α → Bool} {r : β → Bool} {l : List α} {m : List β} (h : l.map p = m.map r) : whichB p l = whichB r m := by
  have hl : l.length = m.length := by
    have := congrArg List.length h
    simpa using this
  unfold whichB
  rw [hl]
  congr 1
  refine List.filter_congr fun k _ => ?_
  have := congrArg (fun z => z[k]?) h
  simp only [List.getElem?_map] at this
  rw [this]
theorem any_maps {α β : Type} {p : α → Bool} {r : β → Bool} {l : List α} {m : List β} (h : l.map p = m.map r) : l.any p = m.any r := by
  have e1 : l.any p = (l.map p).any id := by rw [List.any_map]; rfl
  have e2 : m.any r = (m.map r).any id := by rw [List.any_map]; rfl
  rw [e1, e2, h]
theorem alike_swap {k : Nat} {x : Wl} (hk : L.rg[k]? = some x) (heL : errI L = 0) (heM : errI (setRg L k (swapW x)) = 0) (hi : i < L.st.length) (hj : j < L.st.length) (hij : i ≠ j) (hc0 : 0 < L.cs.length) (hs0 : 0 < L.sn.length) : Alike L (setRg L k (swapW x)) i j := by
  have hr : ridgesI (setRg L k (swapW x)) i j = ridgesI L i j := which_maps (set_same hk block_swap)
  refine alike_of heL heM hi hj hij rfl rfl rfl hc0 hs0 (fun c t hc ht => ?_) hr (fun c t hc => rfl) rfl (fun u => ?_)
  · unfold whyI
    rw [hr]
    rfl
  · unfold clearB
    show (!((L.rg.set k (swapW x)).any _)) = _
    rw [any_maps (set_same hk block_swap)]
    rfl
end

end Go.Proofs.Ytojbdmdjepgpjaa

namespace Go.Proofs.Ytojbdmdjepgpjaa
open Go.RowKit

section
variable {P : Program} {ops : Array Oper} {md : Region.Mode} {Q : Exit → Act → World → Prop} {n : Nat} {a0 : Act}
theorem wpAny_inv2 (hB : factsB md ops n = true) (Inv : (Nat → Bool) → (Nat → Value) → World → Prop)
    (hstep : ∀ i o, i < n → ops[i]? = some o → ∀ (L : Nat → Bool) (vs : Nat → Value) (w : World), L i = false → (∀ d, d < n → leansOn ops o d = true → L d = true) → (∀ d, d < n → Region.waitsFor md ops i d = true → L d = true) → Inv L vs w →
      if Region.wanted o (yielded ops (putAll (fun _ => true) vs 0 (ops.toList.take n) a0).tmps) then Gives P o (putAll (fun _ => true) vs 0 (ops.toList.take n) a0) w (fun v w' => Inv (fun j => if j = i then true else L j) (fun j => if j = i then v else vs j) w')
      else Inv (fun j => if j = i then true else L j) (fun j => if j = i then undef else vs j) w)
    (htail : ∀ (L : Nat → Bool) (vs : Nat → Value) (w : World), (∀ d, d < n → L d = true) → Inv L vs w → wpList P ops Q (ops.toList.drop n) (putAll (fun _ => true) vs 0 (ops.toList.take n) a0) w) :
    ∀ (fuel : Nat) (listed : Array Bool) (vs : Nat → Value) (w : World), HeadInv md ops n listed → unl n listed = fuel → Inv (fun i => listed.getD i false) vs w →
      wpAny P md ops Q (fuel + (ops.size - n)) listed (putAll (fun i => listed.getD i false) vs 0 (ops.toList.take n) a0) w := by
  simp only [factsB, Bool.and_eq_true, decide_eq_true_eq, Bool.or_eq_true] at hB
  obtain ⟨⟨⟨⟨⟨hsel, hal⟩, hn⟩, hw8⟩, htl⟩, hseq⟩ := hB
  intro fuel
  induction fuel with
  | zero =>
    intro listed vs w inv hu hI
    have hall : ∀ d, d < n → listed.getD d false = true := unl_zero hu
    have hlist : listed = Array.replicate n true ++ Array.replicate (ops.size - n) false := by
      apply Array.ext
      · simp [inv.size]; omega
      · intro i h1 h2
        by_cases hi : i < n
        · have := hall i hi
          simp [h1] at this
          rw [this]
          simp [hi]
        · have := inv.tail i (by omega) (by rw [← inv.size]; exact h1)
          simp [h1] at this
          rw [this]
          simp [Array.getElem_append, hi]
    have hput : putAll (fun i => listed.getD i false) vs 0 (ops.toList.take n) a0 = putAll (fun _ => true) vs 0 (ops.toList.take n) a0 := by
      have hg : ∀ (l : List Oper) (k : Nat) (a : Act), k + l.length ≤ n → putAll (fun i => listed.getD i false) vs k l a = putAll (fun _ => true) vs k l a := by
        intro l
        induction l with
        | nil => intro k a _; rfl
        | cons o r ih =>
          intro k a hk
          simp only [List.length_cons] at hk
          simp only [putAll, hall k (by omega), if_true]
          exact ih (k + 1) _ (by omega)
      exact hg _ 0 a0 (by simp; omega)
    rw [hput, Nat.zero_add]
    have hd : (ops.toList.drop n).length = ops.size - n := by simp
    have := wpAny_of_seq (md := md) (Q' := Q) (P := P) (ops.toList.drop n) n listed (putAll (fun _ => true) vs 0 (ops.toList.take n) a0) w (fun j => by simp [List.getElem?_drop]) (by rw [hd, hlist]; exact hseq)
      (htail _ vs w hall hI)
    rwa [hd] at this
  | succ fuel ih =>
    intro listed vs w inv hu hI
    rw [show fuel + 1 + (ops.size - n) = (fuel + (ops.size - n)) + 1 by omega]
    -- an unlisted one of the first
    have hex : ∃ i, i < n ∧ listed.getD i false = false := by
      rcases Classical.em (∃ i, i < n ∧ listed.getD i false = false) with h | h
      · exact h
      · exfalso
        have : unl n listed = 0 := List.countP_eq_zero.2 fun i hi => by
          cases hl : listed.getD i false with
          | true => simp
          | false => exact absurd ⟨i, List.mem_range.1 hi, hl⟩ h
        omega
    have hop : ∀ i, i < n → ∃ o, ops[i]? = some o ∧ (∀ d, d < n → leansOn ops o d = true → Region.waitsFor md ops i d = true) ∧ (∀ e ∈ o.after, Region.binds md e = true → e.on < i) := by
      intro i hi
      have h1 := List.all_eq_true.1 hw8 i (List.mem_range.2 hi)
      cases ho : ops[i]? with
      | none => rw [ho] at h1; cases h1
      | some o =>
        rw [ho] at h1
        simp only [Bool.and_eq_true] at h1
        refine ⟨o, rfl, fun d hd hl => ?_, fun e he hb => ?_⟩
        · have h2 := List.all_eq_true.1 h1.1 d (List.mem_range.2 hd)
          simp [hl] at h2
          exact h2
        · have h2 := Array.all_eq_true_iff_forall_mem.1 h1.2 e he
          simp [hb] at h2
          exact h2
    have hready : ∃ i, i ∈ Region.ready md ops listed := by
      have hleast : ∀ (k i : Nat), i ≤ k → i < n → listed.getD i false = false → ∃ j, j < n ∧ listed.getD j false = false ∧ ∀ m, m < j → listed.getD m false = true := by
        intro k
        induction k with
        | zero => intro i hik hi h; exact ⟨i, hi, h, fun m hm => by omega⟩
        | succ k ihk =>
          intro i hik hi h
          rcases Classical.em (∃ m, m < i ∧ listed.getD m false = false) with ⟨m, hm, hm'⟩ | hno
          · exact ihk m (by omega) (by omega) hm'
          · exact ⟨i, hi, h, fun m hm => by
              cases hl : listed.getD m false with
              | true => rfl
              | false => exact absurd ⟨m, hm, hl⟩ hno⟩
      obtain ⟨i, hi, hl⟩ := hex
      obtain ⟨j, hj, hjl, hjm⟩ := hleast i i (Nat.le_refl _) hi hl
      obtain ⟨o, ho, _, hb⟩ := hop j hj
      exact ⟨j, mem_ready.2 ⟨getD_in (by rw [inv.size]; omega) hjl, o, ho, fun e he hbe => hjm _ (hb e he hbe)⟩⟩
    refine ⟨fun h0 => (by obtain ⟨i, hi⟩ := hready; rw [h0] at hi; cases hi), fun i hi => ?_⟩
    have hin : i < n := by
      rcases Nat.lt_or_ge i n with h | h
      · exact h
      · exfalso
        obtain ⟨k, hk, hkl⟩ := hex
        obtain ⟨_, oi, hoi, _⟩ := mem_ready.1 hi
        have hlt : i < ops.size := (Array.getElem?_eq_some_iff.1 hoi).1
        rcases htl with he | ⟨hs, hc⟩
        · omega
        · exact tail_waits hs hc (by omega) inv _ k rfl hk (getD_in (by rw [inv.size]; omega) hkl) i h hi
    have hil : listed.getD i false = false := getD_both (mem_ready.1 hi).1
    obtain ⟨o, ho, hdep, _⟩ := hop i hin
    obtain ⟨_, o', ho', hafter⟩ := mem_ready.1 hi
    have hoo : o' = o := Option.some.inj (ho'.symm.trans ho)
    subst hoo
    have hdl : ∀ d, d < n → leansOn ops o' d = true → listed.getD d false = true := by
      intro d hd hl
      obtain ⟨oj, hoj, e, he, hb, hon⟩ := Region.waitsFor_spec (hdep d hd hl)
      have : oj = o' := Option.some.inj (hoj.symm.trans ho)
      subst this
      rw [← hon]
      exact hafter e he hb
    have hagree : Agree (o'.looksAt ops) (putAll (fun i => listed.getD i false) vs 0 (ops.toList.take n) a0) (putAll (fun _ => true) vs 0 (ops.toList.take n) a0) := by
      refine Agree.putAll _ 0 a0 a0 ⟨rfl, fun _ _ => rfl⟩ fun j oj hj hjl d hdst hmem => ?_
      rw [Nat.zero_add] at hjl
      have hj2 : ops[j]? = some oj ∧ j < n := by
        rw [List.getElem?_take] at hj
        split at hj
        · rename_i hlt; exact ⟨by simpa using hj, hlt⟩
        · cases hj
      have := hdl j hj2.2 (by unfold leansOn; rw [hj2.1]; simp [hdst, hmem])
      rw [this] at hjl
      cases hjl
    have hwl : ∀ d, d < n → Region.waitsFor md ops i d = true → listed.getD d false = true := by
      intro d hd hl
      obtain ⟨oj, hoj, e, he, hb, hon⟩ := Region.waitsFor_spec hl
      have : oj = o' := Option.some.inj (hoj.symm.trans ho)
      subst this
      rw [← hon]
      exact hafter e he hb
    have hst := hstep i o' hin ho (fun i => listed.getD i false) vs w hil hdl hwl hI
    have htake : (ops.toList.take n)[i]? = some o' := by rw [List.getElem?_take, if_pos hin]; simpa using ho
    have hnext : ∀ v w', Inv (fun j => if j = i then true else listed.getD j false) (fun j => if j = i then v else vs j) w' → wpAny P md ops Q (fuel + (ops.size - n)) (listed.setIfInBounds i true) ((putAll (fun i => listed.getD i false) vs 0 (ops.toList.take n) a0).put o'.dst v) w' := by
      intro v w' hI'
      have hset := putAll_set (sel := fun i => listed.getD i false) (vs := vs) v (ops.toList.take n) 0 i a0 o' hal htake (by simpa using hil)
      simp only [Nat.zero_add] at hset
      rw [← hset]
      have hsize : i < listed.size := by rw [inv.size]; omega
      have hfun : (fun j => if j = i then true else listed.getD j false) = fun j => (listed.setIfInBounds i true).getD j false := by
        funext j
        by_cases hji : j = i
        · subst hji; simp [hsize]
        · rw [if_neg hji, getD_set_ne false (Ne.symm hji)]
      rw [hfun]
      refine ih (listed.setIfInBounds i true) (fun j => if j = i then v else vs j) w' (inv.set hi hin) (by have := unl_set hin hsize hil; omega) ?_
      rw [← hfun]
      exact hI'
    unfold wpOp
    rw [ho]
    simp only
    rw [hagree.wanted]
    split
    · rename_i hw
      rw [if_pos hw] at hst
      exact .inl (Gives.wp (hagree.exec fun cs c => Region.noSelect_spec hsel i o' cs c ho) hst fun v w' h => hnext v w' h)
    · rename_i hw
      rw [if_neg hw] at hst
      exact hnext undef w hst
end

/-- The cell a may have been put to u. -/
def Puts (w0 : World) (a : Addr) (u : Value) (w : World) : Prop := Below w0.heap.size w0 w ∨ Below w0.heap.size (w0.setCell a u) w
section
variable {w0 w wt : World} {a : Addr} {u : Value}
theorem below_put {n : Nat} (h : Below n w0 wt) : Below n (w0.setCell a u) (wt.setCell a u) := by
  refine ⟨h.os, h.tape, h.output, ?_, fun k hk => ?_⟩
  · have := h.size
    simpa [World.setCell] using this
  · simp only [World.setCell, Array.getElem?_modify, h.block k hk]
theorem Puts.block (h : Puts w0 a u w) {k : Nat} (hk : k < w0.heap.size) (ha : k ≠ a.block) : w.heap[k]? = w0.heap[k]? := by
  rcases h with h | h
  · exact h.block k hk
  · rw [h.block k hk]
    exact Below.heap_setCell w0 a u k ha
theorem Box.puts {g t : Nat} {cs : Array Value} (hb : Box w0 g t cs) (h : Puts w0 a u w) (ha : g ≠ a.block) : Box w g t cs := (h.block hb.lt ha).trans hb
theorem Puts.later {w' : World} (h : Puts w0 a u w) (hb : Below w.heap.size w w') : Puts w0 a u w' := by
  have hs : (w0.setCell a u).heap.size = w0.heap.size := by simp [World.setCell]
  rcases h with h | h
  · exact .inl (h.trans (hb.mono h.size))
  · have := h.size
    rw [hs] at this
    exact .inr (h.trans (hb.mono this))
end

structure PutInv (ops : Array Oper) (Cs : List Value) (n p : Nat) (w0 : World) (a : Addr) (u : Value) (L : Nat → Bool) (vs : Nat → Value) (w : World) : Prop where
  each : ∀ d, d < n → d ≠ p → L d = true → vs d = Cs.getD d undef
  before : L p = false → Below w0.heap.size w0 w
  behind : L p = true → Below w0.heap.size (w0.setCell a u) w
  waits : L p = true → ∀ d, d < n → Region.waitsFor .any ops p d = true → L d = true

/-- **A region that draws its order, and puts one cell.** -/
theorem wp_region_put {P : Program} {id : Nat} {Q : Exit → Act → World → Prop} {a0 : Act} {w0 : World} {l : List Oper} (n p : Nat) (a : Addr) (u : Value) (Cs : List Value) (A : (Nat → Value) → Act)
    (hm : P.follows .mixedOrders = true) (hB : factsB .any l.toArray n = true) (hpn : p < n) (hA : ∀ vs, putAll (fun _ => true) vs 0 (l.take n) a0 = A vs)
    (hstep : ∀ (vs : Nat → Value), Each (fun i o => i ≠ p → ∀ w : World, Puts w0 a u w → (Region.waitsFor .any l.toArray p i = true → Below w0.heap.size w0 w) → (∀ d, d < n → leansOn l.toArray o d = true → d ≠ p → vs d = Cs.getD d undef) →
      Region.wanted o (yielded l.toArray (A vs).tmps) = true ∧ Gives P o (A vs) w (fun v w' => Below w.heap.size w w' ∧ v = Cs.getD i undef)) 0 (l.take n))
    (hp : ∀ (vs : Nat → Value) (o : Oper), l[p]? = some o → ∀ w : World, Below w0.heap.size w0 w → (∀ d, d < n → leansOn l.toArray o d = true → d ≠ p → vs d = Cs.getD d undef) →
      Region.wanted o (yielded l.toArray (A vs).tmps) = true ∧ Gives P o (A vs) w (fun _ w' => w' = w.setCell a u))
    (htail : ∀ (vs : Nat → Value) (w : World), Below w0.heap.size (w0.setCell a u) w → (∀ d, d < n → d ≠ p → vs d = Cs.getD d undef) → wpList P l.toArray Q (l.drop n) (A vs) w) :
    (Code.region id l.toArray true).wp P Q a0 w0 := by
  refine wp_region_any hm ?_
  have hn : n ≤ l.toArray.size := by
    simp only [factsB, Bool.and_eq_true, decide_eq_true_eq] at hB
    exact hB.1.1.1.2
  have inv0 : HeadInv .any l.toArray n (Array.replicate l.toArray.size false) :=
    ⟨by simp, fun j oj _ hl => (by rw [getD_replicate_false] at hl; cases hl), fun t _ ht => getD_in (by simpa using ht) (getD_replicate_false _ _)⟩
  have hun : unl n (Array.replicate l.toArray.size false) = n := by
    unfold unl
    rw [List.countP_eq_length.2]
    · simp
    · intro i _; rw [getD_replicate_false]; rfl
  have hput : putAll (fun i => (Array.replicate l.toArray.size false).getD i false) (fun _ => undef) 0 (l.take n) a0 = a0 := by
    have hg : ∀ (l' : List Oper) (k : Nat) (a : Act), putAll (fun i => (Array.replicate l.toArray.size false).getD i false) (fun _ => undef) k l' a = a := by
      intro l'
      induction l' with
      | nil => intro k a; rfl
      | cons o r ih => intro k a; unfold putAll; rw [getD_replicate_false, if_neg (by simp)]; exact ih _ _
    exact hg _ _ _
  have h0 : PutInv l.toArray Cs n p w0 a u (fun i => (Array.replicate l.toArray.size false).getD i false) (fun _ => undef) w0.drew :=
    ⟨(fun d _ _ h => by simp only [getD_replicate_false] at h; cases h), (fun _ => (Below.refl _ _).drew), (fun h => by simp only [getD_replicate_false] at h; cases h), (fun h => by simp only [getD_replicate_false] at h; cases h)⟩
  have hs0 : (w0.setCell a u).heap.size = w0.heap.size := by simp [World.setCell]
  have := wpAny_inv2 (P := P) (md := .any) (ops := l.toArray) (Q := Q) (n := n) (a0 := a0) hB (PutInv l.toArray Cs n p w0 a u) (fun i o hi ho L vs w hLi hdep hwait hI => ?_) (fun L vs w hall hI => ?_) n (Array.replicate l.toArray.size false) (fun _ => undef) w0.drew inv0 hun h0
  · rw [hput, show n + (l.toArray.size - n) = l.toArray.size by omega] at this
    exact this
  · have hAA : putAll (fun _ => true) vs 0 (l.toArray.toList.take n) a0 = A vs := hA vs
    rw [hAA]
    have hdeps : ∀ d, d < n → leansOn l.toArray o d = true → d ≠ p → vs d = Cs.getD d undef := fun d hd hl hdp => hI.each d hd hdp (hdep d hd hl)
    have hset : ∀ {j : Nat}, j ≠ i → (if j = i then true else L j) = L j := fun h => if_neg h
    by_cases hip : i = p
    · subst hip
      have h1 := hp vs o (by simpa using ho) w (hI.before hLi) hdeps
      rw [if_pos h1.1]
      refine h1.2.mono fun v w' hw' => ⟨fun d hd hdp hl => ?_, fun hl => ?_, fun _ => ?_, fun _ d hd hl => ?_⟩
      · rw [hset hdp] at hl
        rw [if_neg hdp]
        exact hI.each d hd hdp hl
      · simp at hl
      · subst hw'
        exact below_put (hI.before hLi)
      · by_cases hdi : d = i
        · rw [if_pos hdi]
        · rw [if_neg hdi]
          exact hwait d hd hl
    · have hE := Each.get (hstep vs) i o (by rw [List.getElem?_take, if_pos hi]; simpa using ho)
      rw [Nat.zero_add] at hE
      have hP : Puts w0 a u w := by
        cases hLp : L p with
        | false => exact .inl (hI.before hLp)
        | true => exact .inr (hI.behind hLp)
      have h1 := hE hip w hP (fun hwf => by
        cases hLp : L p with
        | false => exact hI.before hLp
        | true =>
          have := hI.waits hLp i hi hwf
          rw [hLi] at this
          cases this) hdeps
      rw [if_pos h1.1]
      refine h1.2.mono fun v w' ⟨hb, hv⟩ => ⟨fun d hd hdp hl => ?_, fun hl => ?_, fun hl => ?_, fun hl d hd hwf => ?_⟩
      · by_cases hdi : d = i
        · subst hdi
          rw [if_pos rfl]
          exact hv
        · rw [hset hdi] at hl
          rw [if_neg hdi]
          exact hI.each d hd hdp hl
      · rw [hset (Ne.symm hip)] at hl
        exact up_later (hI.before hl) hb
      · rw [hset (Ne.symm hip)] at hl
        have h2 := hI.behind hl
        have h3 := h2.size
        rw [hs0] at h3
        exact h2.trans (hb.mono h3)
      · rw [hset (Ne.symm hip)] at hl
        by_cases hdi : d = i
        · rw [if_pos hdi]
        · rw [if_neg hdi]
          exact hI.waits hl d hd hwf
  · have hAA : putAll (fun _ => true) vs 0 (l.toArray.toList.take n) a0 = A vs := hA vs
    rw [hAA]
    exact htail vs w (hI.behind (hall p hpn)) fun d hd hdp => hI.each d hd hdp (hall d hd)

end Go.Proofs.Ytojbdmdjepgpjaa

namespace Go.Proofs.Ytojbdmdjepgpjaa
open Go.RowKit

/-- What is known of a value, and lasts while all that lies goes on lying; 'free': it says nothing of memory. -/
structure FactK where
  p : Value → World → Prop
  st : ∀ v w w', p v w → Below w.heap.size w w' → p v w'
  free : Bool
  fr : free = true → ∀ v w w', p v w → p v w'
def FactK.eq (c : Value) : FactK := ⟨fun v _ => v = c, fun _ _ _ h _ => h, true, fun _ _ _ _ h => h⟩
def FactK.any : FactK := ⟨fun _ _ => True, fun _ _ _ _ _ => trivial, true, fun _ _ _ _ _ => trivial⟩
def FactK.sl (n0 len t : Nat) (cs : Array Value) : FactK := ⟨fun v w => ∃ g, v = .slice (some ⟨g, 0, none⟩) len len ∧ Box w g t cs ∧ n0 ≤ g, fun _ _ _ ⟨g, h, h1, h2⟩ hb => ⟨g, h, h1.kept hb, h2⟩, false, fun h => by cases h⟩
def FactK.own (n0 e sz n : Nat) (xs : List Value) : FactK := ⟨fun v w => ∃ A m p, v = .slice A m p ∧ w.ownsRow n0 e sz (.slice A m p) n xs, fun _ _ _ ⟨A, m, p, h, h1⟩ hb => ⟨A, m, p, h, own_below h1 hb⟩, false, fun h => by cases h⟩

structure KillInv (ops : Array Oper) (Fs : List FactK) (n p : Nat) (kill : Nat → Bool) (w0 : World) (L : Nat → Bool) (vs : Nat → Value) (w : World) : Prop where
  below : Below w0.heap.size w0 w
  each : ∀ d, d < n → L d = true → (L p = true → kill d = false) → (Fs.getD d FactK.any).p (vs d) w
  waits : L p = true → ∀ d, d < n → Region.waitsFor .any ops p d = true → L d = true
def leansAt (ops : Array Oper) (i d : Nat) : Bool := match ops[i]? with | some o => leansOn ops o d | none => false
def killB (ops : Array Oper) (n p : Nat) (kill : Nat → Bool) : Bool :=
  decide (p < n) && !kill p && (List.range n).all fun i => (List.range n).all fun d => !kill d || i == p || !leansAt ops i d || Region.waitsFor .any ops p i

/-- **A region that draws its order, whose operation p spoils some of the facts.** -/
theorem wp_region_kill {P : Program} {id : Nat} {Q : Exit → Act → World → Prop} {a0 : Act} {w0 : World} {l : List Oper} (n p : Nat) (kill : Nat → Bool) (Fs : List FactK) (A : (Nat → Value) → Act)
    (hm : P.follows .mixedOrders = true) (hB : factsB .any l.toArray n = true) (hk : killB l.toArray n p kill = true) (hfree : ((List.range n).all fun d => d == p || kill d || (Fs.getD d FactK.any).free) = true) (hA : ∀ vs, putAll (fun _ => true) vs 0 (l.take n) a0 = A vs)
    (hstep : ∀ (vs : Nat → Value), Each (fun i o => i ≠ p → ∀ w : World, Below w0.heap.size w0 w → (∀ d, d < n → leansOn l.toArray o d = true → (Fs.getD d FactK.any).p (vs d) w) →
      Region.wanted o (yielded l.toArray (A vs).tmps) = true ∧ Gives P o (A vs) w (fun v w' => Below w.heap.size w w' ∧ (Fs.getD i FactK.any).p v w')) 0 (l.take n))
    (hp : ∀ (vs : Nat → Value) (o : Oper), l[p]? = some o → ∀ w : World, Below w0.heap.size w0 w → (∀ d, d < n → leansOn l.toArray o d = true → (Fs.getD d FactK.any).p (vs d) w) →
      Region.wanted o (yielded l.toArray (A vs).tmps) = true ∧ Gives P o (A vs) w (fun v w' => Below w0.heap.size w0 w' ∧ (Fs.getD p FactK.any).p v w'))
    (htail : ∀ (vs : Nat → Value) (w : World), Below w0.heap.size w0 w → (∀ d, d < n → kill d = false → (Fs.getD d FactK.any).p (vs d) w) → wpList P l.toArray Q (l.drop n) (A vs) w) :
    (Code.region id l.toArray true).wp P Q a0 w0 := by
  refine wp_region_any hm ?_
  have hn : n ≤ l.toArray.size := by
    simp only [factsB, Bool.and_eq_true, decide_eq_true_eq] at hB
    exact hB.1.1.1.2
  simp only [killB, Bool.and_eq_true, decide_eq_true_eq, Bool.not_eq_true'] at hk
  obtain ⟨⟨hpn, hkp⟩, hk3⟩ := hk
  have inv0 : HeadInv .any l.toArray n (Array.replicate l.toArray.size false) :=
    ⟨by simp, fun j oj _ hl => (by rw [getD_replicate_false] at hl; cases hl), fun t _ ht => getD_in (by simpa using ht) (getD_replicate_false _ _)⟩
  have hun : unl n (Array.replicate l.toArray.size false) = n := by
    unfold unl
    rw [List.countP_eq_length.2]
    · simp
    · intro i _; rw [getD_replicate_false]; rfl
  have hput : putAll (fun i => (Array.replicate l.toArray.size false).getD i false) (fun _ => undef) 0 (l.take n) a0 = a0 := by
    have hg : ∀ (l' : List Oper) (k : Nat) (a : Act), putAll (fun i => (Array.replicate l.toArray.size false).getD i false) (fun _ => undef) k l' a = a := by
      intro l'
      induction l' with
      | nil => intro k a; rfl
      | cons o r ih => intro k a; unfold putAll; rw [getD_replicate_false, if_neg (by simp)]; exact ih _ _
    exact hg _ _ _
  have h0 : KillInv l.toArray Fs n p kill w0 (fun i => (Array.replicate l.toArray.size false).getD i false) (fun _ => undef) w0.drew :=
    ⟨(Below.refl _ _).drew, (fun d _ h => by simp only [getD_replicate_false] at h; cases h), (fun h => by simp only [getD_replicate_false] at h; cases h)⟩
  have := wpAny_inv2 (P := P) (md := .any) (ops := l.toArray) (Q := Q) (n := n) (a0 := a0) hB (KillInv l.toArray Fs n p kill w0) (fun i o hi ho L vs w hLi hdep hwait hI => ?_) (fun L vs w hall hI => ?_) n (Array.replicate l.toArray.size false) (fun _ => undef) w0.drew inv0 hun h0
  · rw [hput, show n + (l.toArray.size - n) = l.toArray.size by omega] at this
    exact this
  · have hAA : putAll (fun _ => true) vs 0 (l.toArray.toList.take n) a0 = A vs := hA vs
    rw [hAA]
    have hset : ∀ {j : Nat}, j ≠ i → (if j = i then true else L j) = L j := fun h => if_neg h
    have hdeps : ∀ d, d < n → leansOn l.toArray o d = true → (Fs.getD d FactK.any).p (vs d) w := fun d hd hl => by
      refine hI.each d hd (hdep d hd hl) fun hLp => ?_
      cases hkd : kill d with
      | false => rfl
      | true =>
        exfalso
        have h1 := List.all_eq_true.1 (List.all_eq_true.1 hk3 i (List.mem_range.2 hi)) d (List.mem_range.2 hd)
        have h2 : leansAt l.toArray i d = true := by unfold leansAt; rw [ho]; exact hl
        rw [hkd, h2] at h1
        simp only [Bool.not_true, Bool.false_or, Bool.or_false, Bool.or_eq_true, beq_iff_eq] at h1
        rcases h1 with h1 | h1
        · rw [h1] at hLi
          rw [hLi] at hLp
          cases hLp
        · have := hI.waits hLp i hi h1
          rw [hLi] at this
          cases this
    by_cases hip : i = p
    · subst hip
      have h1 := hp vs o (by simpa using ho) w hI.below hdeps
      rw [if_pos h1.1]
      refine h1.2.mono fun v w' ⟨hb, hf⟩ => ⟨hb, fun d hd hl hki => ?_, fun _ d hd hl => ?_⟩
      · by_cases hdi : d = i
        · subst hdi
          rw [if_pos rfl]
          exact hf
        · rw [hset hdi] at hl
          rw [if_neg hdi]
          have hfd := List.all_eq_true.1 hfree d (List.mem_range.2 hd)
          rw [hki (if_pos rfl)] at hfd
          simp only [Bool.or_false, Bool.or_eq_true, beq_iff_eq] at hfd
          exact (Fs.getD d FactK.any).fr (hfd.resolve_left hdi) _ _ _ (hI.each d hd hl fun h => by rw [hLi] at h; cases h)
      · by_cases hdi : d = i
        · rw [if_pos hdi]
        · rw [if_neg hdi]
          exact hwait d hd hl
    · have hE := Each.get (hstep vs) i o (by rw [List.getElem?_take, if_pos hi]; simpa using ho)
      rw [Nat.zero_add] at hE
      have h1 := hE hip w hI.below hdeps
      rw [if_pos h1.1]
      refine h1.2.mono fun v w' ⟨hb, hv⟩ => ⟨up_later hI.below hb, fun d hd hl hki => ?_, fun hl d hd hwf => ?_⟩
      · rw [hset (Ne.symm hip)] at hki
        by_cases hdi : d = i
        · subst hdi
          rw [if_pos rfl]
          exact hv
        · rw [hset hdi] at hl
          rw [if_neg hdi]
          exact (Fs.getD d FactK.any).st _ _ _ (hI.each d hd hl hki) hb
      · rw [hset (Ne.symm hip)] at hl
        by_cases hdi : d = i
        · rw [if_pos hdi]
        · rw [if_neg hdi]
          exact hI.waits hl d hd hwf
  · have hAA : putAll (fun _ => true) vs 0 (l.toArray.toList.take n) a0 = A vs := hA vs
    rw [hAA]
    exact htail vs w hI.below fun d hd hkd => hI.each d hd (hall d hd) fun _ => hkd

/-- Some cells are put, one after the other. -/
def putsTo : List (Nat × Addr × Value) → World → World
  | [], w => w
  | (_, a, u) :: r, w => putsTo r (w.setCell a u)
theorem putsTo_take {S : List (Nat × Addr × Value)} {m : Nat} {x : Nat × Addr × Value} {w : World} (h : S[m]? = some x) : putsTo (S.take (m + 1)) w = (putsTo (S.take m) w).setCell x.2.1 x.2.2 := by
  induction S generalizing m w with
  | nil => cases h
  | cons y r ih =>
    obtain ⟨i, a, u⟩ := y
    cases m with
    | zero =>
      simp only [List.getElem?_cons_zero, Option.some.injEq] at h
      subst h
      rfl
    | succ m =>
      simp only [List.getElem?_cons_succ] at h
      simp only [List.take_succ_cons, putsTo]
      exact ih h
theorem putsTo_size {S : List (Nat × Addr × Value)} {w : World} : (putsTo S w).heap.size = w.heap.size := by
  induction S generalizing w with
  | nil => rfl
  | cons y r ih =>
    obtain ⟨i, a, u⟩ := y
    simp only [putsTo]
    rw [ih]
    simp [World.setCell]

theorem box_puts {S : List (Nat × Addr × Value)} {w : World} {g t j : Nat} {cs : Array Value} (h : Box w g t cs) (hn : ∀ x ∈ S, g ≠ x.2.1.block) : Box (putsTo (S.take j) w) g t cs := by
  induction S generalizing w j with
  | nil => simpa [putsTo] using h
  | cons y r ih =>
    obtain ⟨i, a, u⟩ := y
    cases j with
    | zero => simpa [putsTo] using h
    | succ j =>
      simp only [List.take_succ_cons, putsTo]
      exact ih (h.far (p := a) (hn _ (List.mem_cons_self ..)) u) fun x hx => hn x (List.mem_cons_of_mem _ hx)

structure PutsInv (ops : Array Oper) (Cs : List Value) (S : List (Nat × Addr × Value)) (n : Nat) (w0 : World) (L : Nat → Bool) (vs : Nat → Value) (w : World) : Prop where
  each : ∀ d, d < n → S.any (fun x => x.1 == d) = false → L d = true → vs d = Cs.getD d undef
  upto : ∃ j, j ≤ S.length ∧ (∀ m x, S[m]? = some x → L x.1 = decide (m < j)) ∧ Below w0.heap.size (putsTo (S.take j) w0) w
  waits : ∀ x ∈ S, L x.1 = true → ∀ d, d < n → Region.waitsFor .any ops x.1 d = true → L d = true
def putsB (ops : Array Oper) (n : Nat) (S : List (Nat × Addr × Value)) : Bool :=
  S.all (fun x => decide (x.1 < n)) && (List.range S.length).all fun m => (List.range m).all fun k => match S[k]?, S[m]? with | some x, some y => Region.waitsFor .any ops y.1 x.1 && decide (x.1 ≠ y.1) | _, _ => true

/-- **A region that draws its order, and puts several cells, one after the other.** -/
theorem wp_region_puts {P : Program} {id : Nat} {Q : Exit → Act → World → Prop} {a0 : Act} {w0 : World} {l : List Oper} (n : Nat) (S : List (Nat × Addr × Value)) (Cs : List Value) (A : (Nat → Value) → Act)
    (hm : P.follows .mixedOrders = true) (hB : factsB .any l.toArray n = true) (hS : putsB l.toArray n S = true) (hA : ∀ vs, putAll (fun _ => true) vs 0 (l.take n) a0 = A vs)
    (hstep : ∀ (vs : Nat → Value), Each (fun i o => S.any (fun x => x.1 == i) = false → ∀ w : World, w0.heap.size ≤ w.heap.size → (∃ j, j ≤ S.length ∧ (∀ m x, m < j → S[m]? = some x → Region.waitsFor .any l.toArray x.1 i = false) ∧ Below w0.heap.size (putsTo (S.take j) w0) w) → (∀ d, d < n → leansOn l.toArray o d = true → S.any (fun x => x.1 == d) = false → vs d = Cs.getD d undef) →
      Region.wanted o (yielded l.toArray (A vs).tmps) = true ∧ Gives P o (A vs) w (fun v w' => Below w.heap.size w w' ∧ v = Cs.getD i undef)) 0 (l.take n))
    (hp : ∀ (vs : Nat → Value) (m : Nat) (x : Nat × Addr × Value) (o : Oper), S[m]? = some x → l[x.1]? = some o → ∀ w : World, Below w0.heap.size (putsTo (S.take m) w0) w → (∀ d, d < n → leansOn l.toArray o d = true → S.any (fun x => x.1 == d) = false → vs d = Cs.getD d undef) →
      Region.wanted o (yielded l.toArray (A vs).tmps) = true ∧ Gives P o (A vs) w (fun _ w' => w' = w.setCell x.2.1 x.2.2))
    (htail : ∀ (vs : Nat → Value) (w : World), Below w0.heap.size (putsTo S w0) w → (∀ d, d < n → S.any (fun x => x.1 == d) = false → vs d = Cs.getD d undef) → wpList P l.toArray Q (l.drop n) (A vs) w) :
    (Code.region id l.toArray true).wp P Q a0 w0 := by
  refine wp_region_any hm ?_
  have hn : n ≤ l.toArray.size := by
    simp only [factsB, Bool.and_eq_true, decide_eq_true_eq] at hB
    exact hB.1.1.1.2
  simp only [putsB, Bool.and_eq_true, List.all_eq_true, decide_eq_true_eq, List.mem_range] at hS
  obtain ⟨hSn, hSc⟩ := hS
  have inv0 : HeadInv .any l.toArray n (Array.replicate l.toArray.size false) :=
    ⟨by simp, fun j oj _ hl => (by rw [getD_replicate_false] at hl; cases hl), fun t _ ht => getD_in (by simpa using ht) (getD_replicate_false _ _)⟩
  have hun : unl n (Array.replicate l.toArray.size false) = n := by
    unfold unl
    rw [List.countP_eq_length.2]
    · simp
    · intro i _; rw [getD_replicate_false]; rfl
  have hput : putAll (fun i => (Array.replicate l.toArray.size false).getD i false) (fun _ => undef) 0 (l.take n) a0 = a0 := by
    have hg : ∀ (l' : List Oper) (k : Nat) (a : Act), putAll (fun i => (Array.replicate l.toArray.size false).getD i false) (fun _ => undef) k l' a = a := by
      intro l'
      induction l' with
      | nil => intro k a; rfl
      | cons o r ih => intro k a; unfold putAll; rw [getD_replicate_false, if_neg (by simp)]; exact ih _ _
    exact hg _ _ _
  have h0 : PutsInv l.toArray Cs S n w0 (fun i => (Array.replicate l.toArray.size false).getD i false) (fun _ => undef) w0.drew :=
    ⟨(fun d _ _ h => by simp only [getD_replicate_false] at h; cases h), ⟨0, Nat.zero_le _, (fun m x _ => by simp only [getD_replicate_false]; simp), by simpa [putsTo] using (Below.refl w0.heap.size w0).drew⟩, (fun x _ h => by simp only [getD_replicate_false] at h; cases h)⟩
  have := wpAny_inv2 (P := P) (md := .any) (ops := l.toArray) (Q := Q) (n := n) (a0 := a0) hB (PutsInv l.toArray Cs S n w0) (fun i o hi ho L vs w hLi hdep hwait hI => ?_) (fun L vs w hall hI => ?_) n (Array.replicate l.toArray.size false) (fun _ => undef) w0.drew inv0 hun h0
  · rw [hput, show n + (l.toArray.size - n) = l.toArray.size by omega] at this
    exact this
  · have hAA : putAll (fun _ => true) vs 0 (l.toArray.toList.take n) a0 = A vs := hA vs
    rw [hAA]
    have hset : ∀ {j : Nat}, j ≠ i → (if j = i then true else L j) = L j := fun h => if_neg h
    have hdeps : ∀ d, d < n → leansOn l.toArray o d = true → S.any (fun x => x.1 == d) = false → vs d = Cs.getD d undef := fun d hd hl hds => hI.each d hd hds (hdep d hd hl)
    obtain ⟨j, hj, hLj, hbj⟩ := hI.upto
    by_cases hip : S.any (fun x => x.1 == i) = true
    · obtain ⟨x, hx, hxi⟩ := List.any_eq_true.1 hip
      simp only [beq_iff_eq] at hxi
      obtain ⟨m, hm2⟩ := List.mem_iff_getElem?.1 hx
      have hmlt : m < S.length := (List.getElem?_eq_some_iff.1 hm2).1
      have hmj : j = m := by
        have h1 := hLj m x hm2
        rw [hxi, hLi] at h1
        have h2 : ¬ m < j := by simpa using h1.symm
        rcases Nat.lt_or_ge j m with h3 | h3
        · exfalso
          have hjl : j < S.length := by omega
          have h4 := hSc m hmlt j h3
          rw [hm2, List.getElem?_eq_getElem hjl] at h4
          simp only [Bool.and_eq_true, decide_eq_true_eq] at h4
          have h5 := hwait _ (hSn S[j] (List.getElem_mem hjl)) (by rw [hxi] at h4; exact h4.1)
          rw [hLj j S[j] (List.getElem?_eq_getElem hjl)] at h5
          simp at h5
        · omega
      subst hmj
      have h1 := hp vs j x o hm2 (by rw [hxi]; simpa using ho) w hbj hdeps
      rw [if_pos h1.1]
      refine h1.2.mono fun v w' hw' => ⟨fun d hd hds hl => ?_, ⟨j + 1, by omega, fun k y hy => ?_, ?_⟩, fun y hy hl d hd hwf => ?_⟩
      · have hdi : d ≠ i := fun e => by rw [e, hip] at hds; cases hds
        rw [hset hdi] at hl
        rw [if_neg hdi]
        exact hI.each d hd hds hl
      · by_cases hyi : y.1 = i
        · rw [if_pos hyi]
          have hkj : k = j := by
            have h1 := hLj k y hy
            rw [hyi, hLi] at h1
            have h2 : ¬ k < j := by simpa using h1.symm
            rcases Nat.lt_or_ge j k with h3 | h3
            · exfalso
              have hkl : k < S.length := (List.getElem?_eq_some_iff.1 hy).1
              have h4 := hSc k hkl j h3
              rw [hy, hm2] at h4
              simp only [Bool.and_eq_true, decide_eq_true_eq] at h4
              exact h4.2 (hxi.trans hyi.symm)
            · omega
          subst hkj
          simp
        · rw [if_neg hyi, hLj k y hy]
          have : k ≠ j := fun e => by
            subst e
            rw [hm2] at hy
            cases hy
            exact hyi hxi
          have e : (k < j + 1) = (k < j) := by
            apply propext
            omega
          simp only [e]
      · subst hw'
        rw [putsTo_take hm2]
        exact below_put hbj
      · by_cases hdi : d = i
        · rw [if_pos hdi]
        · rw [if_neg hdi]
          by_cases hyi : y.1 = i
          · rw [hyi] at hwf
            exact hwait d hd hwf
          · rw [hset hyi] at hl
            exact hI.waits y hy hl d hd hwf
    · have hip' : S.any (fun x => x.1 == i) = false := Bool.eq_false_iff.2 hip
      have hni : ∀ x ∈ S, x.1 ≠ i := fun x hx e => hip (List.any_eq_true.2 ⟨x, hx, by simpa using e⟩)
      have hE := Each.get (hstep vs) i o (by rw [List.getElem?_take, if_pos hi]; simpa using ho)
      rw [Nat.zero_add] at hE
      have hsz := hbj.size
      rw [putsTo_size] at hsz
      have hno : ∀ (m : Nat) (x : Nat × Addr × Value), m < j → S[m]? = some x → Region.waitsFor .any l.toArray x.1 i = false := by
        intro m x hm hx
        cases hwf : Region.waitsFor .any l.toArray x.1 i with
        | false => rfl
        | true =>
          have h2 := hLj m x hx
          rw [decide_eq_true hm] at h2
          have h3 := hI.waits x (List.mem_of_getElem? hx) h2 i hi hwf
          rw [hLi] at h3
          cases h3
      have h1 := hE hip' w hsz ⟨j, hj, hno, hbj⟩ hdeps
      rw [if_pos h1.1]
      refine h1.2.mono fun v w' ⟨hb, hv⟩ => ⟨fun d hd hds hl => ?_, ⟨j, hj, fun k y hy => ?_, hbj.trans (hb.mono hsz)⟩, fun y hy hl d hd hwf => ?_⟩
      · by_cases hdi : d = i
        · subst hdi
          rw [if_pos rfl]
          exact hv
        · rw [hset hdi] at hl
          rw [if_neg hdi]
          exact hI.each d hd hds hl
      · rw [if_neg (hni y (List.mem_of_getElem? hy))]
        exact hLj k y hy
      · rw [hset (hni y hy)] at hl
        by_cases hdi : d = i
        · rw [if_pos hdi]
        · rw [if_neg hdi]
          exact hI.waits y hy hl d hd hwf
  · have hAA : putAll (fun _ => true) vs 0 (l.toArray.toList.take n) a0 = A vs := hA vs
    rw [hAA]
    obtain ⟨j, hj, hLj, hbj⟩ := hI.upto
    have hjl : j = S.length := by
      rcases Nat.lt_or_ge j S.length with h | h
      · exfalso
        have h1 := hLj j S[j] (List.getElem?_eq_getElem h)
        rw [hall _ (hSn S[j] (List.getElem_mem h))] at h1
        simp at h1
      · omega
    subst hjl
    rw [List.take_length] at hbj
    exact htail vs w hbj fun d hd hds => hI.each d hd hds (hall d hd)

section
variable {P : Program}
/-- 'append' of all that a slice reads as, onto a slice of the call's own. -/
theorem run_append_rows {w : World} (base : Nat) (t ty e : TypeId) (i : TypeInfo) (z : Value) (size bytes : Nat) (ht : P.underlying t = some (.slice e)) (hi : P.info? e = some i) (hz : i.zero = some z)
    (hsize : i.size = size) (hby : i.bytes = bytes) (hzs : z.cells.size = size) (hsz : 0 < size) (v : Value) (n : Nat) (xs : List Value) (hown : w.ownsRow base e size v n xs)
    {α : Type} (cells : α → List Value) (l : List α) (u : Value) (hR : RowsAt w u size cells l) (hc : ∀ x, (cells x).length = size) (h1 : ∀ x ∈ l, ∀ y ∈ cells x, y.oneCell' = true)
    (h63 : n + l.length ≤ maxLen) (hbytes : (n + l.length) * bytes ≤ 140737488355328) (hbase : base ≤ w.heap.size) :
    ∃ v' w', (Builtin.append_ #[t, t] ty #[v, u]).run P w = .ok v' w' ∧ w'.ownsRow base e size v' (n + l.length) (xs ++ l.flatMap cells) ∧ w.grownBy w' v.ownBlock ∧ (v'.ownBlock = v.ownBlock ∨ v'.ownBlock = some w.heap.size) := by
  obtain ⟨_, A, cap, rfl, _, _, hcell⟩ := hR
  have hl := flat_len hc l
  have ho1 : ∀ y ∈ l.flatMap cells, y.oneCell' = true := fun y hy => by
    obtain ⟨x, hx, hy⟩ := List.mem_flatMap.1 hy
    exact h1 x hx y hy
  by_cases hne : l = []
  · subst hne
    have r0 := run_append_own_at (P := P) w base t ty e i z size bytes ht hi hz hsize hby hzs hsz v n xs hown
    cases A with
    | none =>
      obtain ⟨v', w', hr, h2, h3, _, h5⟩ := r0 ⟨0, 0, none⟩ 0 cap [] (by simp) (by simp) (by simp) h63 hbytes hbase
      refine ⟨v', w', ?_, h2, h3, h5⟩
      have hq := append_nil_run (P := P) w base t ty e i size ht hi v n xs hown cap
      exact hq.trans hr
    | some ad =>
      obtain ⟨v', w', hr, h2, h3, _, h5⟩ := r0 ad 0 cap [] (by simp) (by simp) (by simp) h63 hbytes hbase
      exact ⟨v', w', hr, h2, h3, h5⟩
  · obtain ⟨b, off, rfl, _, hcl⟩ := hcell hne
    obtain ⟨v', w', hr, h2, h3, _, h5⟩ := run_append_own_at (P := P) w base t ty e i z size bytes ht hi hz hsize hby hzs hsz v n xs hown ⟨b, off, none⟩ l.length cap (l.flatMap cells) hl (fun j y hy => by
      obtain ⟨x, hx, hu⟩ := flat_get hc hsz l j y hy
      have := hcl _ x hx _ y hu
      have e1 : (⟨b, off, none⟩ : Addr).add j = ⟨b, off + j, none⟩ := by
        unfold Addr.add
        by_cases h : j = 0 <;> simp [h]
      have e2 : off + j / size * size + j % size = off + j := by
        have := Nat.div_add_mod j size
        rw [Nat.mul_comm] at this
        omega
      rw [e1, ← e2]
      exact this) ho1 h63 hbytes hbase
    exact ⟨v', w', hr, h2, h3, h5⟩
theorem gives_slice {o : Oper} {ρ : Operand → Value} {w : World} {K : Value → World → Prop} (t : TypeId) (x : Operand) (lo hi : Option Operand) (ho : o.op = .slice t x lo hi none) (u v : Value) (vlo vhi : Option Value) (hx : ρ x = u)
    (hlo : lo.map ρ = vlo) (hhi : hi.map ρ = vhi) (hr : (Instr.sliceAt t u vlo vhi none).run P w = .ok v w) (hK : K v w) : gives P K ((execOp ρ o).run P w) := by
  unfold execOp
  simp only [ho, hx, hlo, hhi, Option.map_none, Sem.run_bind, Sem.run_pure, hr, Result.andThen_ok]
  exact hK
theorem rows_from {α : Type} {cells : α → List Value} {sz : Nat} {t e : TypeId} {i : TypeInfo} (ht : P.underlying t = some (.slice e)) (hi : P.info? e = some i) (hs : i.size = sz) {A : Option Addr} {cap : Nat} {l : List α} {r : Nat} (hr : r ≤ l.length) (k : IntKind) :
    ∃ V, (∀ w, (Instr.sliceAt t (.slice A l.length cap) (some (.int k (r : Int))) none none).run P w = .ok V w) ∧ ∀ w, RowsAt w (.slice A l.length cap) sz cells l → RowsAt w V sz cells (l.drop r) := by
  refine ⟨.slice (if cap = r then A else A.map (·.add (r * sz))) (l.length - r) (cap - r), fun w => ?_, fun w h => ?_⟩
  · have h0 : (0 : Int) ≤ (r : Int) := by omega
    have h1 : (r : Int) ≤ (l.length : Int) := by omega
    simp [Instr.sliceAt, Instr.slice, run_underlying ht, Instr.sliceBounds, run_sliceBound, sizeOf, typeInfo, hi, hs, h0, hr]
  · obtain ⟨hk, A', cap', e1, h2, h3, h4⟩ := h
    cases e1
    refine ⟨by rw [List.length_drop]; omega, _, _, by rw [List.length_drop], by rw [List.length_drop]; omega, by omega, fun hne => ?_⟩
    have hlt : r < l.length := by
      rcases Nat.lt_or_ge r l.length with h | h
      · exact h
      · exact absurd (List.drop_eq_nil_of_le h) hne
    obtain ⟨b, off, rfl, hb, hc⟩ := h4 (fun e => by rw [e] at hlt; simp at hlt)
    refine ⟨b, off + r * sz, ?_, hb, fun m x hx j u hu => ?_⟩
    · rw [if_neg (by omega)]
      unfold Addr.add
      by_cases h : r * sz = 0 <;> simp [h]
    · rw [List.getElem?_drop] at hx
      have := hc _ x hx j u hu
      rw [Nat.add_mul] at this
      rw [show off + r * sz + m * sz + j = off + (r * sz + m * sz) + j by omega]
      exact this
theorem rows_upto {α : Type} {cells : α → List Value} {sz : Nat} {t e : TypeId} {i : TypeInfo} (ht : P.underlying t = some (.slice e)) (hi : P.info? e = some i) {A : Option Addr} {cap : Nat} {l : List α} {r : Nat} (hr : r ≤ l.length) (hcap : l.length ≤ cap) (k : IntKind) :
    ∃ V, (∀ w, (Instr.sliceAt t (.slice A l.length cap) none (some (.int k (r : Int))) none).run P w = .ok V w) ∧ ∀ w, RowsAt w (.slice A l.length cap) sz cells l → RowsAt w V sz cells (l.take r) := by
  refine ⟨.slice A r cap, fun w => ?_, fun w h => ?_⟩
  · have h0 : (0 : Int) ≤ (r : Int) := by omega
    have h1 : (r : Int) ≤ (cap : Int) := by omega
    have h2 : (if cap = 0 then A else A.map (·.add 0)) = A := by
      split
      · rfl
      · cases A <;> simp [Addr.add]
    simp [Instr.sliceAt, Instr.slice, run_underlying ht, Instr.sliceBounds, run_sliceBound, sizeOf, typeInfo, hi, h0, h1, h2]
  · obtain ⟨hk, A', cap', e1, h2, h3, h4⟩ := h
    cases e1
    have hlen : (l.take r).length = r := by rw [List.length_take]; omega
    refine ⟨by omega, A, cap, by rw [hlen], by omega, h3, fun hne => ?_⟩
    obtain ⟨b, off, rfl, hb, hc⟩ := h4 (fun e => by rw [e] at hne; simp at hne)
    refine ⟨b, off, rfl, hb, fun m x hx j u hu => ?_⟩
    rw [List.getElem?_take] at hx
    split at hx
    · exact hc m x hx j u hu
    · cases hx
end

end Go.Proofs.Ytojbdmdjepgpjaa

namespace Go.Proofs.Ytojbdmdjepgpjaa
open Go.RowKit

theorem err_rgs {L : Ld} {l : List Wl} (hl : l.length ≤ 6) (hb : l.all rgB = true) (he : errI L = 0) : errI ⟨L.st, l, L.cs, L.sn⟩ = 0 := by
  obtain ⟨h1, h2⟩ := err_parts he
  refine err_of ?_ ?_
  · simp only [exB, Bool.or_eq_false_iff, decide_eq_false_iff_not] at h1 ⊢
    exact ⟨⟨⟨⟨h1.1.1.1.1, by omega⟩, h1.1.1.2⟩, h1.1.2⟩, h1.2⟩
  · simp only [validB, Bool.and_eq_true] at h2 ⊢
    exact ⟨⟨⟨h2.1.1.1, hb⟩, h2.1.2⟩, h2.2⟩
theorem rgs_of {L : Ld} (he : errI L = 0) : L.rg.all rgB = true := by
  have h2 := (err_parts he).2
  simp only [validB, Bool.and_eq_true] at h2
  exact h2.1.1.2
theorem all_set {α : Type} {p : α → Bool} {l : List α} {k : Nat} {x : α} (hl : l.all p = true) (hx : p x = true) : (l.set k x).all p = true := by
  rw [List.all_eq_true] at hl ⊢
  intro y hy
  rcases List.mem_or_eq_of_mem_set hy with h | rfl
  · exact hl y h
  · exact hx
theorem rg_swap {x : Wl} (h : rgB x = true) : rgB (swapW x) = true := by
  simp only [rgB, wlB, swapW, Bool.and_eq_true, inB_iff, Bool.not_eq_true', Bool.and_eq_false_iff, beq_eq_false_iff_ne, beq_iff_eq, decide_eq_true_eq] at h ⊢
  obtain ⟨⟨⟨⟨⟨⟨⟨⟨a, b⟩, c⟩, d⟩, e⟩, f⟩, g⟩, i⟩, j⟩ := h
  exact ⟨⟨⟨⟨⟨⟨⟨⟨c, d⟩, a⟩, b⟩, e.imp Ne.symm Ne.symm⟩, f⟩, g⟩, decide_eq_true i⟩, j⟩
theorem err_swap {L : Ld} {k : Nat} {x : Wl} (hk : L.rg[k]? = some x) (hg : L.rg.length ≤ 6) (he : errI L = 0) : errI (setRg L k (swapW x)) = 0 :=
  err_rgs (by simpa using hg) (all_set (rgs_of he) (rg_swap (List.all_eq_true.1 (rgs_of he) x (List.mem_of_getElem? hk)))) he

/-- A place between two others. -/
theorem part_bd {a q k n : Int} (h1 : 0 < k) (h2 : k < n) (ha : 0 ≤ a ∧ a ≤ 100) (hb : 0 ≤ a + n * q ∧ a + n * q ≤ 100) : 0 ≤ a + k * q ∧ a + k * q ≤ 100 := by
  rcases Int.le_total 0 q with h | h
  · have e1 := Int.mul_nonneg (Int.le_of_lt h1) h
    have e2 := Int.mul_nonneg (show 0 ≤ n - k by omega) h
    rw [Int.sub_mul] at e2
    omega
  · have e1 := Int.mul_nonneg (Int.le_of_lt h1) (show 0 ≤ -q by omega)
    have e2 := Int.mul_nonneg (show 0 ≤ n - k by omega) (show 0 ≤ -q by omega)
    rw [Int.mul_neg] at e1
    rw [Int.mul_neg, Int.sub_mul] at e2
    omega
theorem mul_ne {k q : Int} (hk : 0 < k) (hq : q ≠ 0) : k * q ≠ 0 := Int.mul_ne_zero (by omega) hq
section
variable {x1 y1 q p k n b t : Int}
theorem rg_first (h1 : 0 < k) (h2 : k < n) (h : rgB ⟨x1, y1, x1 + n * q, y1 + n * p, b, t⟩ = true) : rgB ⟨x1, y1, x1 + k * q, y1 + k * p, b, t⟩ = true := by
  simp only [rgB, wlB, Bool.and_eq_true, inB_iff, Bool.not_eq_true', Bool.and_eq_false_iff, beq_eq_false_iff_ne, beq_iff_eq, decide_eq_true_eq] at h ⊢
  obtain ⟨⟨⟨⟨⟨⟨⟨⟨a, b⟩, c⟩, d⟩, e⟩, f⟩, g⟩, i⟩, j⟩ := h
  refine ⟨⟨⟨⟨⟨⟨⟨⟨a, b⟩, part_bd h1 h2 a c⟩, part_bd h1 h2 b d⟩, ?_⟩, f⟩, g⟩, i⟩, j⟩
  rcases e with e | e
  · have hq : q ≠ 0 := fun z => by rw [z, Int.mul_zero] at e; omega
    have := mul_ne h1 hq
    exact .inl (by omega)
  · have hq : p ≠ 0 := fun z => by rw [z, Int.mul_zero] at e; omega
    have := mul_ne h1 hq
    exact .inr (by omega)
theorem rg_second (h1 : 0 < k) (h2 : k < n) (h : rgB ⟨x1, y1, x1 + n * q, y1 + n * p, b, t⟩ = true) : rgB ⟨x1 + k * q, y1 + k * p, x1 + n * q, y1 + n * p, 0, t⟩ = true := by
  simp only [rgB, wlB, Bool.and_eq_true, inB_iff, Bool.not_eq_true', Bool.and_eq_false_iff, beq_eq_false_iff_ne, beq_iff_eq, decide_eq_true_eq] at h ⊢
  obtain ⟨⟨⟨⟨⟨⟨⟨⟨a, b⟩, c⟩, d⟩, e⟩, f⟩, g⟩, i⟩, j⟩ := h
  refine ⟨⟨⟨⟨⟨⟨⟨⟨part_bd h1 h2 a c, part_bd h1 h2 b d⟩, c⟩, d⟩, ?_⟩, by omega⟩, g⟩, by omega⟩, trivial⟩
  have hnk : 0 < n - k := by omega
  rcases e with e | e
  · have hq : q ≠ 0 := fun z => by rw [z, Int.mul_zero] at e; omega
    have := mul_ne hnk hq
    rw [Int.sub_mul] at this
    exact .inl (by omega)
  · have hq : p ≠ 0 := fun z => by rw [z, Int.mul_zero] at e; omega
    have := mul_ne hnk hq
    rw [Int.sub_mul] at this
    exact .inr (by omega)
theorem rg_base {x : Wl} (h : rgB x = true) : x.b = 0 := by
  simp only [rgB, Bool.and_eq_true, beq_iff_eq] at h
  exact h.2
end
/-- One ridge is made shorter, and one more is laid. -/
def divLd (L : Ld) (r : Nat) (x y : Wl) : Ld := ⟨L.st, L.rg.set r x ++ [y], L.cs, L.sn⟩
section
variable {L : Ld} {r i j : Nat} {x y z : Wl}
theorem any_divided {α : Type} {p : α → Bool} {l : List α} {r : Nat} {x y z : α} (hz : l[r]? = some z) (h : p z = (p x || p y)) : (l.set r x ++ [y]).any p = l.any p := by
  have hr : r < l.length := (List.getElem?_eq_some_iff.1 hz).1
  have hzz : l[r] = z := (List.getElem?_eq_some_iff.1 hz).2
  have e : l = l.take r ++ z :: l.drop (r + 1) := by
    rw [← hzz, List.getElem_cons_drop, List.take_append_drop]
  rw [List.set_eq_take_append_cons_drop, if_pos hr]
  have e2 : l.any p = (l.take r ++ z :: l.drop (r + 1)).any p := by rw [← e]
  rw [e2]
  simp only [List.any_append, List.any_cons, List.any_nil, Bool.or_false, h]
  cases (l.take r).any p <;> cases p x <;> cases p y <;> cases (l.drop (r + 1)).any p <;> rfl
theorem rise_divided (hz : L.rg[r]? = some z) (heL : errI L = 0) (heM : errI (divLd L r x y) = 0) (hi : i < L.st.length) (hj : j < L.st.length) (hij : i ≠ j) (hc0 : 0 < L.cs.length) (hs0 : 0 < L.sn.length)
    (h : ∀ s t, blocksW s t z = (blocksW s t x || blocksW s t y)) : riseI (divLd L r x y) i j = riseI L i j := by
  have h1 := open_zero (i := i) (j := j) (k := 0) (h := 0) heL hi hj hc0 hs0 hij
  have h2 := open_zero (L := divLd L r x y) (i := i) (j := j) (k := 0) (h := 0) heM hi hj hc0 hs0 hij
  have hc : clearB (divLd L r x y) (stAt L i) (stAt L j) = clearB L (stAt L i) (stAt L j) := by
    funext u
    unfold clearB
    show (!((L.rg.set r x ++ [y]).any _)) = _
    rw [any_divided hz (h _ _)]
  unfold riseI
  rw [if_neg (by simpa using h2), if_neg (by simpa using h1)]
  show (match (List.range (1000 - (stAt L i).z + 1).toNat).find? (clearB (divLd L r x y) (stAt L i) (stAt L j)) with | some n => ((n : Int), (0 : Int)) | none => (0, 9)) = _
  rw [hc]
  cases (List.range (1000 - (stAt L i).z + 1).toNat).find? (clearB L (stAt L i) (stAt L j)) <;> rfl
theorem which_at {α : Type} {p : α → Bool} {l : List α} {r : Nat} {z : α} (hz : l[r]? = some z) : withinB [(r : Int)] (whichB p l) = p z := by
  have hr : r < l.length := (List.getElem?_eq_some_iff.1 hz).1
  have := within_one (t := r) (n := l.length) (p := fun i => (l[i]?.map p).getD false) hr
  rw [hz] at this
  exact this
theorem which_div1 (hz : L.rg[r]? = some z) : withinB [(r : Int)] (ridgesI (divLd L r x y) i j) = blocksW (stAt L i) (stAt L j) x := by
  have hr : r < L.rg.length := (List.getElem?_eq_some_iff.1 hz).1
  exact which_at (l := L.rg.set r x ++ [y]) (by rw [List.getElem?_append_left (by simpa using hr)]; simp [hr])
theorem which_div2 : withinB [(L.rg.length : Int)] (ridgesI (divLd L r x y) i j) = blocksW (stAt L i) (stAt L j) y :=
  which_at (l := L.rg.set r x ++ [y]) (by rw [List.getElem?_append_right (by simp)]; simp)
theorem err_div (hg : L.rg.length < 6) (hx : rgB x = true) (hy : rgB y = true) (he : errI L = 0) : errI (divLd L r x y) = 0 :=
  err_rgs (by simp; omega) (by rw [List.all_append, all_set (rgs_of he) hx]; simp [hy]) he
end

section
variable {e1 e2 e3 e4 e5 n0 : Nat} {L : Ld} {w : World} {u1 u2 u3 u4 : Value} {c : List (Value × List Cl)}
/-- The ridge i of a land in memory of its own is put anew in one of its fields. -/
theorem Cop.putRg {b off m cap i j : Nat} {s s' : Wl} {u : Value} (h : Cop e1 e2 e3 e4 e5 n0 L w u1 (.slice (some ⟨b, off, none⟩) m cap) u3 u4 c) (hs : L.rg[i]? = some s) (hj : j < 6) (hu : s'.cells = s.cells.set j u)
    (d1 : e1 ≠ e2) (d3 : e3 ≠ e2) (d4 : e4 ≠ e2) (d5 : e5 ≠ e2) :
    Cop e1 e2 e3 e4 e5 n0 (setRg L i s') (w.setCell ⟨b, i * 6 + j, none⟩ u) u1 (.slice (some ⟨b, off, none⟩) m cap) u3 u4 c := by
  obtain ⟨h0, hm, ho⟩ := own_put (i := i * 6 + j) (u := u) h.o2
  have hg := grownBy_set w b (i * 6 + j) u
  have hg' : w.grownBy (w.setCell ⟨b, i * 6 + j, none⟩ u) (Value.ownBlock (.slice (some ⟨b, off, none⟩) m cap)) := hg
  refine ⟨own_other h.o1 h.o2 d1 hg', ?_, own_other h.o3 h.o2 d3 hg', own_other h.o4 h.o2 d4 hg', h.ec, fun x hx => own_other (h.each x hx) h.o2 d5 hg', h.apart⟩
  rw [flat_set (cells := Wl.cells) (sz := 6) (fun _ => rfl) L.rg i j s s' u hs hj hu] at ho
  simpa [setRg] using ho
theorem Cop.rgCell {b m cap i j : Nat} {s : Wl} {u : Value} (h : Cop e1 e2 e3 e4 e5 n0 L w u1 (.slice (some ⟨b, 0, none⟩) m cap) u3 u4 c) (hs : L.rg[i]? = some s) (hl : L.rg.length ≤ 1000) (hu : s.cells[j]? = some u) :
    w.cell? ⟨b, i * 6 + j, none⟩ = some u := by
  have := (RowsAt.of_ownM (cells := Wl.cells) (fun _ => rfl) h.o2 rfl hl).cellAt hs (j := j) hu
  simpa using this
theorem set_set {L : Ld} {i : Nat} {s t : Wl} : setRg (setRg L i s) i t = setRg L i t := by
  unfold setRg
  rw [List.set_set]
theorem set_get {L : Ld} {i : Nat} {s t : Wl} (hs : L.rg[i]? = some s) : (setRg L i t).rg[i]? = some t := by
  have hr : i < L.rg.length := (List.getElem?_eq_some_iff.1 hs).1
  simp [setRg, hr]
end

end Go.Proofs.Ytojbdmdjepgpjaa

namespace Go.Proofs.Ytojbdmdjepgpjaa
open Go.RowKit

section
variable {L : Ld} {w W : World} {u1 u2 u3 u4 : Value} {c : List (Value × List Cl)} {n0 g : Nat} {cs : Array Value}
theorem put4_only (w : World) (g : Nat) (a b c d : Value) : Only g w ((((w.setCell ⟨g, 0, none⟩ a).setCell ⟨g, 1, none⟩ b).setCell ⟨g, 2, none⟩ c).setCell ⟨g, 3, none⟩ d) :=
  (((Only.set _ _ _ _).trans (Only.set _ _ _ _)).trans (Only.set _ _ _ _)).trans (Only.set _ _ _ _)
theorem up_put4 (h : Below w.heap.size w W) (hg : w.heap.size ≤ g) (a b c d : Value) : Below w.heap.size w ((((W.setCell ⟨g, 0, none⟩ a).setCell ⟨g, 1, none⟩ b).setCell ⟨g, 2, none⟩ c).setCell ⟨g, 3, none⟩ d) :=
  up_put (up_put (up_put (up_put h (p := ⟨g, 0, none⟩) hg _) (p := ⟨g, 1, none⟩) hg _) (p := ⟨g, 2, none⟩) hg _) (p := ⟨g, 3, none⟩) hg _
theorem Cop.put4 (h : Cop 74 79 80 60 82 n0 L w u1 u2 u3 u4 c) (hb : Box w g 27 cs) (a b e d : Value) :
    Cop 74 79 80 60 82 n0 L ((((w.setCell ⟨g, 0, none⟩ a).setCell ⟨g, 1, none⟩ b).setCell ⟨g, 2, none⟩ e).setCell ⟨g, 3, none⟩ d) u1 u2 u3 u4 c :=
  (((h.set hb).set (hb.put 0 a)).set ((hb.put 0 a).put 1 b)).set (((hb.put 0 a).put 1 b).put 2 e)
end


set_option maxRecDepth 100000 in
set_option maxHeartbeats 4000000 in
theorem divided_law (v1 v2 v3 v4 : Value) (L : Ld) (c : List (Value × List Cl)) (x y z : Int) (w : World) (hL : LandAny w v1 v2 v3 v4 L c) (hx : 0 ≤ x ∧ x ≤ 255) (hy : 0 ≤ y ∧ y ≤ 255) (hz : 0 ≤ z ∧ z ≤ 255) :
    Calls Try.prog 13 #[.agg #[v1, v2, v3, v4], .int .u8 x, .int .u8 y, .int .u8 z] w fun e w' => e = .returned (.bool true) ∧ Below w.heap.size w w' := by
  obtain ⟨hy0, hy1⟩ := hy
  obtain ⟨hz0, hz1⟩ := hz
  obtain ⟨i2, hi2, hz20, hz21, hz22⟩ := info_parts info79
  have HA := Lib.hid hL
  obtain ⟨A1, cap1, rfl, _, _⟩ := hL.st.form
  obtain ⟨A2, cap2, rfl, _, _⟩ := hL.rg.form
  obtain ⟨A3, cap3, rfl, _, _⟩ := hL.cs.form
  obtain ⟨A4, cap4, rfl, _, _⟩ := hL.sn.form
  have Hcl := Lib.hid (show c.length = L.cs.length by rw [← hL.eq]; simp)
  clear hL
  cases hr : readyB L
  case false =>
    have Hr := Lib.hid hr
    clear hr
    go_enter Try.func13, Try.ntmps13
    go_wp2_with fail
    refine (Lready_any _ _ _ _ L c _ (HA.out.kept (up_alloc up0 _))).mono ?_
    rintro e y0 ⟨rfl, hb⟩
    rw [Hr.out]
    go_wp2_with fail
    refine (awake_any _).mono ?_
    rintro e y1 ⟨rfl, hb2⟩
    go_wp2_with fail
    go_ret
    exact ⟨rfl, up_later (up_later (up_alloc up0 _) hb) hb2⟩
  have hq := hr
  simp only [readyB, Bool.and_eq_true, beq_iff_eq, decide_eq_true_eq] at hq
  obtain ⟨⟨hth, he⟩, h1n⟩ := hq
  have hT := HA.out.thin hth
  have hok := land_ok he
  obtain ⟨_, hl6, hg6, hc0, hc4, hs0, hs12⟩ := hok.len
  have hcl := Hcl.out
  obtain ⟨i, hi, hin⟩ := nat_mod (x := x) (n := L.st.length) (by omega)
  obtain ⟨j, hj, hjn⟩ := nat_mod (x := x % (L.st.length : Int) + 1 + x / 8 % ((L.st.length : Int) - 1)) (n := L.st.length) (by omega)
  have hij : i ≠ j := by
    have h := mod_ne (n := (L.st.length : Int)) (x := x) (by omega)
    rw [hi] at h hj
    rw [hj] at h
    omega
  have o1 : ∀ k h : Nat, k < L.cs.length → h < L.sn.length → openI L k h [(i : Int), (j : Int)] = 0 := fun k h hk hh => open_zero he hin hjn hk hh hij
  have Hr := Lib.hid hr
  have HT0 := Lib.hid hT
  have Hpi := Lib.hid (show (pairI (L.st.length : Int) x).1 = i from hi)
  have Hpj := Lib.hid (show (pairI (L.st.length : Int) x).2 = j from hj)
  have hn1 : L.st.length ≤ 1000 := by omega
  have i0 : (0 : Int) ≤ (i : Int) := by omega
  have i1 : (i : Int) < (L.st.length : Int) := by omega
  have j0 : (0 : Int) ≤ (j : Int) := by omega
  have j1 : (j : Int) < (L.st.length : Int) := by omega
  have He := Lib.hid he
  have Hok := Lib.hid hok
  have hlen := Lib.hid (lens hT)
  have hcl1 : c.length ≤ 1000 := hT.cs.form.1
  clear hr hT hok hi hj hth hcl
  by_cases hn0 : L.rg.length = 0
  · have e0 : ((L.rg.length : Int) == 0) = true := by rw [beq_iff_eq]; omega
    clear hn0 he
    go_enter Try.func13, Try.ntmps13
    go_wp2_with fail
    have BX := Lib.hid (Box.new (w := w) (t := 27) (cs := #[.slice A1 L.st.length cap1, .slice A2 L.rg.length cap2, .slice A3 c.length cap3, .slice A4 L.sn.length cap4]) rfl)
    have HB := Lib.hid (up_alloc (up0 (w := w)) (.cells #[.slice A1 L.st.length cap1, .slice A2 L.rg.length cap2, .slice A3 c.length cap3, .slice A4 L.sn.length cap4] 27))
    have HT := Lib.hid (HT0.out.kept HB.out)
    refine (Lready_any _ _ _ _ L c _ (HA.out.kept HB.out)).mono ?_
    rintro e y0 ⟨rfl, hb⟩
    rw [Hr.out]
    have HB := Lib.hid (up_later HB.out hb)
    have HT := Lib.hid (HT.out.kept hb)
    have BX := Lib.hid (BX.out.kept hb)
    clear hb
    have BB := BX.out
    have cB := fun i => BB.cell i
    go_wp2_with fail
    clear cB BB
    refine (awake_any _).mono ?_
    rintro e y9 ⟨rfl, hb⟩
    go_wp2_with fail
    go_ret
    exact ⟨by simp [go_sem], up_later HB.out hb⟩
  by_cases hn6 : L.rg.length = 6
  · have e0 : ((L.rg.length : Int) == 0) = false := by rw [beq_eq_false_iff_ne]; omega
    have e6 : ((L.rg.length : Int) == 6) = true := by rw [beq_iff_eq]; omega
    clear hn0 hn6 he
    go_enter Try.func13, Try.ntmps13
    go_wp2_with fail
    have BX := Lib.hid (Box.new (w := w) (t := 27) (cs := #[.slice A1 L.st.length cap1, .slice A2 L.rg.length cap2, .slice A3 c.length cap3, .slice A4 L.sn.length cap4]) rfl)
    have HB := Lib.hid (up_alloc (up0 (w := w)) (.cells #[.slice A1 L.st.length cap1, .slice A2 L.rg.length cap2, .slice A3 c.length cap3, .slice A4 L.sn.length cap4] 27))
    have HT := Lib.hid (HT0.out.kept HB.out)
    refine (Lready_any _ _ _ _ L c _ (HA.out.kept HB.out)).mono ?_
    rintro e y0 ⟨rfl, hb⟩
    rw [Hr.out]
    have HB := Lib.hid (up_later HB.out hb)
    have HT := Lib.hid (HT.out.kept hb)
    have BX := Lib.hid (BX.out.kept hb)
    clear hb
    have BB := BX.out
    have cB := fun i => BB.cell i
    go_wp2_with fail
    clear cB BB
    refine (awake_any _).mono ?_
    rintro e y9 ⟨rfl, hb⟩
    go_wp2_with fail
    go_ret
    exact ⟨by simp [go_sem], up_later HB.out hb⟩
  have hn7 : L.rg.length < 6 := by omega
  have hnp : 0 < L.rg.length := by omega
  have e0 : ((L.rg.length : Int) == 0) = false := by rw [beq_eq_false_iff_ne]; omega
  have e6 : ((L.rg.length : Int) == 6) = false := by rw [beq_eq_false_iff_ne]; omega
  have nz : ¬ (L.rg.length : Int) = 0 := by omega
  have hnp' : (0 : Int) < (L.rg.length : Int) := by omega
  obtain ⟨r, hr, hrn⟩ := nat_mod (x := y) (n := L.rg.length) (by omega)
  have HR := Lib.hid hr
  have r0 : (0 : Int) ≤ (r : Int) := by omega
  have r1 : (r : Int) < (L.rg.length : Int) := by omega
  obtain ⟨s, hs⟩ : ∃ s, L.rg[r]? = some s := ⟨_, List.getElem?_eq_getElem hrn⟩
  have HS := Lib.hid hs
  have hrg : rgB s = true := List.all_eq_true.1 (rgs_of he) s (List.mem_of_getElem? hs)
  have heX : errI (setRg L r (swapW s)) = 0 := err_swap hs hg6 he
  have HEX := Lib.hid heX
  have HALX := Lib.hid (alike_swap (i := i) (j := j) hs he heX hin hjn hij hc0 hs0)
  have Hrg := Lib.hid hrg
  obtain ⟨b2, o2, rfl, _, _⟩ := HT0.out.rg.at rfl HS.out
  clear hr hs hn0 hn6 hrg heX he
  go_enter Try.func13, Try.ntmps13
  go_wp2_with fail
  have BX := Lib.hid (Box.new (w := w) (t := 27) (cs := #[.slice A1 L.st.length cap1, .slice (some ⟨b2, o2, none⟩) L.rg.length cap2, .slice A3 c.length cap3, .slice A4 L.sn.length cap4]) rfl)
  have HB := Lib.hid (up_alloc (up0 (w := w)) (.cells #[.slice A1 L.st.length cap1, .slice (some ⟨b2, o2, none⟩) L.rg.length cap2, .slice A3 c.length cap3, .slice A4 L.sn.length cap4] 27))
  have HT := Lib.hid (HT0.out.kept HB.out)
  refine (Lready_any _ _ _ _ L c _ (HA.out.kept HB.out)).mono ?_
  rintro e y0 ⟨rfl, hb⟩
  rw [Hr.out]
  have HB := Lib.hid (up_later HB.out hb)
  have HT := Lib.hid (HT.out.kept hb)
  have BX := Lib.hid (BX.out.kept hb)
  clear hb
  have BB := BX.out
  have cB := fun i => BB.cell i
  go_wp2_with fail
  clear cB BB
  refine (Lpair_any _ L.st.length cap1 _ _ _ x _ h1n hn1 hx).mono ?_
  rintro e y1 ⟨rfl, hb⟩
  rw [Hpi.out, Hpj.out]
  have HB := Lib.hid (up_later HB.out hb)
  have HT := Lib.hid (HT.out.kept hb)
  have BX := Lib.hid (BX.out.kept hb)
  clear hb
  have BB := BX.out
  have cB := fun i => BB.cell i
  go_upto_region 5 with fail
  rw [HR.out]
  have g0 : y1.cell? ⟨b2, o2 + r * 6, none⟩ = some (iv s.x1) := by simpa using HT.out.rg.cellAt HS.out (j := 0) rfl
  have g1 := HT.out.rg.cellAt HS.out (j := 1) rfl
  have g2 := HT.out.rg.cellAt HS.out (j := 2) rfl
  have g3 := HT.out.rg.cellAt HS.out (j := 3) rfl
  have g4 := HT.out.rg.cellAt HS.out (j := 4) rfl
  have g5 := HT.out.rg.cellAt HS.out (j := 5) rfl
  go_upto_region 6 with fail
  clear cB BB g0 g1 g2 g3 g4 g5
  have hyw := BX.out.lt
  have BW := Lib.hid (Box.new (w := y1) (t := 79) (cs := #[iv s.x1, iv s.y1, iv s.x2, iv s.y2, iv s.b, iv s.t]) rfl)
  have hb := up_alloc (up0 (w := y1)) (.cells #[iv s.x1, iv s.y1, iv s.x2, iv s.y2, iv s.b, iv s.t] 79)
  have HB := Lib.hid (up_later HB.out hb)
  have HT := Lib.hid (HT.out.kept hb)
  have BX := Lib.hid (BX.out.kept hb)
  clear hb
  have bx := BX.out
  apply wp_region_span 6 [(FactS.eq _), (FactS.cop L), (FactS.eq _), (FactS.cop L), (FactS.box 27 _), (FactS.box 27 _)]
  case hm => kernel_rfl
  case hB => kernel_rfl
  case hA => (intro vs; simp only [List.take_succ_cons, List.take_zero, putAll, if_true, Act.put, List.setIfInBounds_toArray, List.set_cons_zero, List.set_cons_succ]; exact rfl)
  case hstep =>
    intro vs
    refine And.intro (fun w hw hd => ?_) ?_
    · refine ite_yes rfl ?_
      have c_bx := fun i => (bx.kept hw).cell i
      simp only [Gives]
      go_simp
      exact ⟨Below.refl _ _, rfl⟩
    refine And.intro (fun w hw hd => ?_) ?_
    · obtain ⟨lo0, hi0, d0⟩ := hd 0 (by decide) rfl
      change vs 0 = _ at d0
      refine ite_yes rfl ?_
      simp only [Gives]
      go_simp
      refine (copied_any _ _ _ _ L c _ (HT.out.kept hw)).mono ?_
      rintro e w1 ⟨u1, u2, u3, u4, cu, rfl, hcop, hb⟩
      exact ⟨_, rfl, hb, u1, u2, u3, u4, cu, rfl, hcop, hcop.lts, hb.size⟩
    refine And.intro (fun w hw hd => ?_) ?_
    · refine ite_yes rfl ?_
      have c_bx := fun i => (bx.kept hw).cell i
      simp only [Gives]
      go_simp
      exact ⟨Below.refl _ _, rfl⟩
    refine And.intro (fun w hw hd => ?_) ?_
    · obtain ⟨lo2, hi2, d2⟩ := hd 2 (by decide) rfl
      change vs 2 = _ at d2
      refine ite_yes rfl ?_
      simp only [Gives]
      go_simp
      refine (copied_any _ _ _ _ L c _ (HT.out.kept hw)).mono ?_
      rintro e w1 ⟨u1, u2, u3, u4, cu, rfl, hcop, hb⟩
      exact ⟨_, rfl, hb, u1, u2, u3, u4, cu, rfl, hcop, hcop.lts, hb.size⟩
    refine And.intro (fun w hw hd => ?_) ?_
    · refine ite_yes rfl ?_
      simp only [Gives]
      go_simp
      exact ⟨(Below.refl _ _).alloc (Nat.le_refl _) _, rfl, Box.new rfl, by simp⟩
    refine And.intro (fun w hw hd => ?_) ?_
    · refine ite_yes rfl ?_
      simp only [Gives]
      go_simp
      exact ⟨(Below.refl _ _).alloc (Nat.le_refl _) _, rfl, Box.new rfl, by simp⟩
    exact trivial
  intro vs lo hi wt hI
  have hw := hI.below
  have d0 := hI.each 0 (by decide) rfl
  change vs 0 = _ at d0
  have d1 := hI.each 1 (by decide) rfl
  obtain ⟨x1, x2, x3, x4, cx, d1, X0, XL, Xh⟩ := d1
  have d2 := hI.each 2 (by decide) rfl
  change vs 2 = _ at d2
  have d3 := hI.each 3 (by decide) rfl
  obtain ⟨q1, q2, q3, q4, cq, d3, Q0, QL, Qh⟩ := d3
  have d4 := hI.each 4 (by decide) rfl
  obtain ⟨d4, N4, K4⟩ := d4
  have d5 := hI.each 5 (by decide) rfl
  obtain ⟨d5, N5, K5⟩ := d5
  have s1 := hI.span 1 (by decide) rfl
  have s3 := hI.span 3 (by decide) rfl
  have s4 := hI.span 4 (by decide) rfl
  have s5 := hI.span 5 (by decide) rfl
  have a1_3 := hI.apart 1 3 (by decide) (by decide) (by decide) rfl rfl
  have a1_4 := hI.apart 1 4 (by decide) (by decide) (by decide) rfl rfl
  have a3_4 := hI.apart 3 4 (by decide) (by decide) (by decide) rfl rfl
  have a1_5 := hI.apart 1 5 (by decide) (by decide) (by decide) rfl rfl
  have a3_5 := hI.apart 3 5 (by decide) (by decide) (by decide) rfl rfl
  have a4_5 := hI.apart 4 5 (by decide) (by decide) (by decide) rfl rfl
  simp only [d0, d1, d2, d3, d4, d5, List.drop_succ_cons, List.drop_zero]
  have bx := bx.kept hw
  clear hI d0 d1 d2 d3 d4 d5
  obtain ⟨xa1, xm1, xp1, rfl⟩ := own_form X0.o1
  obtain ⟨xa2, xm2, xp2, rfl⟩ := own_form X0.o2
  obtain ⟨xa3, xm3, xp3, rfl⟩ := own_form X0.o3
  obtain ⟨xa4, xm4, xp4, rfl⟩ := own_form X0.o4
  obtain ⟨qa1, qm1, qp1, rfl⟩ := own_form Q0.o1
  obtain ⟨qa2, qm2, qp2, rfl⟩ := own_form Q0.o2
  obtain ⟨qa3, qm3, qp3, rfl⟩ := own_form Q0.o3
  obtain ⟨qa4, qm4, qp4, rfl⟩ := own_form Q0.o4
  obtain ⟨bx2, fx2, rfl, _, _⟩ := (X0.land (by omega) (by omega) (by omega) (by omega) hlen.out).rg.at rfl HS.out
  obtain ⟨rfl, rfl, _⟩ := own_put (i := 0) (u := iv 0) X0.o2
  obtain ⟨bq2, fq2, rfl, _, _⟩ := (Q0.land (by omega) (by omega) (by omega) (by omega) hlen.out).rg.at rfl HS.out
  obtain ⟨rfl, rfl, _⟩ := own_put (i := 0) (u := iv 0) Q0.o2
  have e45 : lo 4 ≠ lo 5 := by omega
  have e54 := Ne.symm e45
  have f4 := fun i => N4.free i
  have f5 := fun i => N5.free i
  have c4 := fun i => N4.cell i
  have c5 := fun i => N5.cell i
  have HXL := Lib.hid XL
  have HQL := Lib.hid QL
  clear XL QL bx
  go_upto_region 7 with fail
  clear c4 c5 f4 f5
  have M4 := N4.put4 (u0 := .slice xa1 xm1 xp1) (u1 := .slice (some ⟨bx2, 0, none⟩) L.rg.length xp2) (u2 := .slice xa3 xm3 xp3) (u3 := .slice xa4 xm4 xp4)
  have M5 := N5.only (put4_only _ (lo 4) (.slice xa1 xm1 xp1) (.slice (some ⟨bx2, 0, none⟩) L.rg.length xp2) (.slice xa3 xm3 xp3) (.slice xa4 xm4 xp4)) e54
  have S4 := M4.only (put4_only _ (lo 5) (.slice qa1 qm1 qp1) (.slice (some ⟨bq2, 0, none⟩) L.rg.length qp2) (.slice qa3 qm3 qp3) (.slice qa4 qm4 qp4)) e45
  have S5 := M5.put4 (u0 := .slice qa1 qm1 qp1) (u1 := .slice (some ⟨bq2, 0, none⟩) L.rg.length qp2) (u2 := .slice qa3 qm3 qp3) (u3 := .slice qa4 qm4 qp4)
  have X1 := (X0.put4 N4 (.slice xa1 xm1 xp1) (.slice (some ⟨bx2, 0, none⟩) L.rg.length xp2) (.slice xa3 xm3 xp3) (.slice xa4 xm4 xp4)).put4 M5 (.slice qa1 qm1 qp1) (.slice (some ⟨bq2, 0, none⟩) L.rg.length qp2) (.slice qa3 qm3 qp3) (.slice qa4 qm4 qp4)
  have Q1 := (Q0.put4 N4 (.slice xa1 xm1 xp1) (.slice (some ⟨bx2, 0, none⟩) L.rg.length xp2) (.slice xa3 xm3 xp3) (.slice xa4 xm4 xp4)).put4 M5 (.slice qa1 qm1 qp1) (.slice (some ⟨bq2, 0, none⟩) L.rg.length qp2) (.slice qa3 qm3 qp3) (.slice qa4 qm4 qp4)
  have hb := up_put4 (up_put4 hw s4.1 (.slice xa1 xm1 xp1) (.slice (some ⟨bx2, 0, none⟩) L.rg.length xp2) (.slice xa3 xm3 xp3) (.slice xa4 xm4 xp4)) s5.1 (.slice qa1 qm1 qp1) (.slice (some ⟨bq2, 0, none⟩) L.rg.length qp2) (.slice qa3 qm3 qp3) (.slice qa4 qm4 qp4)
  have OX2 : lo 1 ≤ bx2 ∧ bx2 < hi 1 := HXL.out (.slice (some ⟨bx2, 0, none⟩) L.rg.length xp2) (by simp [parts]) bx2 rfl
  have OQ2 : lo 3 ≤ bq2 ∧ bq2 < hi 3 := HQL.out (.slice (some ⟨bq2, 0, none⟩) L.rg.length qp2) (by simp [parts]) bq2 rfl
  have hl1 : y1.heap.size + 1 ≤ lo 1 := by simpa using s1.1
  have hl3 : y1.heap.size + 1 ≤ lo 3 := by simpa using s3.1
  have hl4 : y1.heap.size + 1 ≤ lo 4 := by simpa using s4.1
  have hl5 : y1.heap.size + 1 ≤ lo 5 := by simpa using s5.1
  clear N4 N5 M4 M5 X0 Q0 hw
  have HB := Lib.hid (up_later HB.out hb)
  have HT := Lib.hid (HT.out.kept hb)
  have BX := Lib.hid (BX.out.kept hb)
  have BW := Lib.hid (BW.out.kept hb)
  clear hb
  generalize hws : ((((((((wt.setCell ⟨lo 4, 0, none⟩ (.slice xa1 xm1 xp1)).setCell ⟨lo 4, 1, none⟩ (.slice (some ⟨bx2, 0, none⟩) L.rg.length xp2)).setCell ⟨lo 4, 2, none⟩ (.slice xa3 xm3 xp3)).setCell ⟨lo 4, 3, none⟩ (.slice xa4 xm4 xp4)).setCell ⟨lo 5, 0, none⟩ (.slice qa1 qm1 qp1)).setCell ⟨lo 5, 1, none⟩ (.slice (some ⟨bq2, 0, none⟩) L.rg.length qp2)).setCell ⟨lo 5, 2, none⟩ (.slice qa3 qm3 qp3)).setCell ⟨lo 5, 3, none⟩ (.slice qa4 qm4 qp4)) = ws at S4 S5 X1 Q1 HB HT BX BW ⊢
  clear hws
  have t1 := X1.putRg (s' := ⟨s.x2, s.y1, s.x2, s.y2, s.b, s.t⟩) (j := 0) (u := iv s.x2) HS.out (by decide) rfl (by decide) (by decide) (by decide) (by decide)
  have t2 := t1.putRg (s' := ⟨s.x2, s.y2, s.x2, s.y2, s.b, s.t⟩) (j := 1) (u := iv s.y2) (set_get HS.out) (by decide) rfl (by decide) (by decide) (by decide) (by decide)
  have t3 := t2.putRg (s' := ⟨s.x2, s.y2, s.x1, s.y2, s.b, s.t⟩) (j := 2) (u := iv s.x1) (set_get (set_get HS.out)) (by decide) rfl (by decide) (by decide) (by decide) (by decide)
  have t4 := t3.putRg (s' := swapW s) (j := 3) (u := iv s.y1) (set_get (set_get (set_get HS.out))) (by decide) rfl (by decide) (by decide) (by decide) (by decide)
  have T0 := Lib.hid X1
  have T1 := Lib.hid t1
  have T2 := Lib.hid t2
  have T3 := Lib.hid t3
  have T4 := Lib.hid t4
  have HQ := Lib.hid Q1
  have n_S4 : lo 4 ≠ bx2 := by omega
  have bw := BW.out
  have n_bw : y1.heap.size ≠ bx2 := by omega
  clear t1 t2 t3 t4 X1 Q1
  apply wp_region_puts 32 [(22, ⟨bx2, r * 6, none⟩, iv s.x2), (25, ⟨bx2, r * 6 + 1, none⟩, iv s.y2), (28, ⟨bx2, r * 6 + 2, none⟩, iv s.x1), (31, ⟨bx2, r * 6 + 3, none⟩, iv s.y1)] [_, _, _, _, _, _, _, _, _, _, _, _, _, _, _, _, _, _, _, _, _, _, undef, _, _, undef, _, _, undef, _, _, undef]
  case hm => kernel_rfl
  case hB => kernel_rfl
  case hS => kernel_rfl
  case hA => (intro vs; simp only [List.take_succ_cons, List.take_zero, putAll, if_true, Act.put, List.setIfInBounds_toArray, List.set_cons_zero, List.set_cons_succ]; exact rfl)
  case hstep =>
    intro vs
    refine And.intro (fun _ w hz hE hd => ?_) ?_
    · refine And.intro rfl ?_
      simp only [Gives]
      go_simp
      exact ⟨Below.refl _ _, rfl⟩
    refine And.intro (fun _ w hz hE hd => ?_) ?_
    · have d0 := hd 0 (by decide) rfl rfl
      change vs 0 = _ at d0
      refine And.intro rfl ?_
      obtain ⟨j, hj, hno, hw⟩ := hE
      have c_S4 := fun i => ((box_puts S4 (show ∀ x ∈ ([(22, ⟨bx2, r * 6, none⟩, iv s.x2), (25, ⟨bx2, r * 6 + 1, none⟩, iv s.y2), (28, ⟨bx2, r * 6 + 2, none⟩, iv s.x1), (31, ⟨bx2, r * 6 + 3, none⟩, iv s.y1)] : List (Nat × Addr × Value)), _ ≠ x.2.1.block by intro x hx; simp only [List.mem_cons, List.not_mem_nil, or_false] at hx; rcases hx with rfl | rfl | rfl | rfl <;> exact n_S4)).kept (hw.mono (Nat.le_of_eq putsTo_size))).cell i
      have c_bw := fun i => ((box_puts bw (show ∀ x ∈ ([(22, ⟨bx2, r * 6, none⟩, iv s.x2), (25, ⟨bx2, r * 6 + 1, none⟩, iv s.y2), (28, ⟨bx2, r * 6 + 2, none⟩, iv s.x1), (31, ⟨bx2, r * 6 + 3, none⟩, iv s.y1)] : List (Nat × Addr × Value)), _ ≠ x.2.1.block by intro x hx; simp only [List.mem_cons, List.not_mem_nil, or_false] at hx; rcases hx with rfl | rfl | rfl | rfl <;> exact n_bw)).kept (hw.mono (Nat.le_of_eq putsTo_size))).cell i
      simp only [Gives]
      go_simp
      exact ⟨Below.refl _ _, rfl⟩
    refine And.intro (fun _ w hz hE hd => ?_) ?_
    · refine And.intro rfl ?_
      simp only [Gives]
      go_simp
      exact ⟨Below.refl _ _, rfl⟩
    refine And.intro (fun _ w hz hE hd => ?_) ?_
    · refine And.intro rfl ?_
      simp only [Gives]
      go_simp
      exact ⟨Below.refl _ _, rfl⟩
    refine And.intro (fun _ w hz hE hd => ?_) ?_
    · have d3 := hd 3 (by decide) rfl rfl
      change vs 3 = _ at d3
      refine And.intro rfl ?_
      obtain ⟨j, hj, hno, hw⟩ := hE
      have c_S4 := fun i => ((box_puts S4 (show ∀ x ∈ ([(22, ⟨bx2, r * 6, none⟩, iv s.x2), (25, ⟨bx2, r * 6 + 1, none⟩, iv s.y2), (28, ⟨bx2, r * 6 + 2, none⟩, iv s.x1), (31, ⟨bx2, r * 6 + 3, none⟩, iv s.y1)] : List (Nat × Addr × Value)), _ ≠ x.2.1.block by intro x hx; simp only [List.mem_cons, List.not_mem_nil, or_false] at hx; rcases hx with rfl | rfl | rfl | rfl <;> exact n_S4)).kept (hw.mono (Nat.le_of_eq putsTo_size))).cell i
      have c_bw := fun i => ((box_puts bw (show ∀ x ∈ ([(22, ⟨bx2, r * 6, none⟩, iv s.x2), (25, ⟨bx2, r * 6 + 1, none⟩, iv s.y2), (28, ⟨bx2, r * 6 + 2, none⟩, iv s.x1), (31, ⟨bx2, r * 6 + 3, none⟩, iv s.y1)] : List (Nat × Addr × Value)), _ ≠ x.2.1.block by intro x hx; simp only [List.mem_cons, List.not_mem_nil, or_false] at hx; rcases hx with rfl | rfl | rfl | rfl <;> exact n_bw)).kept (hw.mono (Nat.le_of_eq putsTo_size))).cell i
      simp only [Gives]
      go_simp
      exact ⟨Below.refl _ _, rfl⟩
    refine And.intro (fun _ w hz hE hd => ?_) ?_
    · refine And.intro rfl ?_
      simp only [Gives]
      go_simp
      exact ⟨Below.refl _ _, rfl⟩
    refine And.intro (fun _ w hz hE hd => ?_) ?_
    · refine And.intro rfl ?_
      simp only [Gives]
      go_simp
      exact ⟨Below.refl _ _, rfl⟩
    refine And.intro (fun _ w hz hE hd => ?_) ?_
    · have d6 := hd 6 (by decide) rfl rfl
      change vs 6 = _ at d6
      refine And.intro rfl ?_
      obtain ⟨j, hj, hno, hw⟩ := hE
      have c_S4 := fun i => ((box_puts S4 (show ∀ x ∈ ([(22, ⟨bx2, r * 6, none⟩, iv s.x2), (25, ⟨bx2, r * 6 + 1, none⟩, iv s.y2), (28, ⟨bx2, r * 6 + 2, none⟩, iv s.x1), (31, ⟨bx2, r * 6 + 3, none⟩, iv s.y1)] : List (Nat × Addr × Value)), _ ≠ x.2.1.block by intro x hx; simp only [List.mem_cons, List.not_mem_nil, or_false] at hx; rcases hx with rfl | rfl | rfl | rfl <;> exact n_S4)).kept (hw.mono (Nat.le_of_eq putsTo_size))).cell i
      have c_bw := fun i => ((box_puts bw (show ∀ x ∈ ([(22, ⟨bx2, r * 6, none⟩, iv s.x2), (25, ⟨bx2, r * 6 + 1, none⟩, iv s.y2), (28, ⟨bx2, r * 6 + 2, none⟩, iv s.x1), (31, ⟨bx2, r * 6 + 3, none⟩, iv s.y1)] : List (Nat × Addr × Value)), _ ≠ x.2.1.block by intro x hx; simp only [List.mem_cons, List.not_mem_nil, or_false] at hx; rcases hx with rfl | rfl | rfl | rfl <;> exact n_bw)).kept (hw.mono (Nat.le_of_eq putsTo_size))).cell i
      simp only [Gives]
      go_simp
      exact ⟨Below.refl _ _, rfl⟩
    refine And.intro (fun _ w hz hE hd => ?_) ?_
    · refine And.intro rfl ?_
      simp only [Gives]
      go_simp
      exact ⟨Below.refl _ _, rfl⟩
    refine And.intro (fun _ w hz hE hd => ?_) ?_
    · refine And.intro rfl ?_
      simp only [Gives]
      go_simp
      exact ⟨Below.refl _ _, rfl⟩
    refine And.intro (fun _ w hz hE hd => ?_) ?_
    · have d9 := hd 9 (by decide) rfl rfl
      change vs 9 = _ at d9
      refine And.intro rfl ?_
      obtain ⟨j, hj, hno, hw⟩ := hE
      have c_S4 := fun i => ((box_puts S4 (show ∀ x ∈ ([(22, ⟨bx2, r * 6, none⟩, iv s.x2), (25, ⟨bx2, r * 6 + 1, none⟩, iv s.y2), (28, ⟨bx2, r * 6 + 2, none⟩, iv s.x1), (31, ⟨bx2, r * 6 + 3, none⟩, iv s.y1)] : List (Nat × Addr × Value)), _ ≠ x.2.1.block by intro x hx; simp only [List.mem_cons, List.not_mem_nil, or_false] at hx; rcases hx with rfl | rfl | rfl | rfl <;> exact n_S4)).kept (hw.mono (Nat.le_of_eq putsTo_size))).cell i
      have c_bw := fun i => ((box_puts bw (show ∀ x ∈ ([(22, ⟨bx2, r * 6, none⟩, iv s.x2), (25, ⟨bx2, r * 6 + 1, none⟩, iv s.y2), (28, ⟨bx2, r * 6 + 2, none⟩, iv s.x1), (31, ⟨bx2, r * 6 + 3, none⟩, iv s.y1)] : List (Nat × Addr × Value)), _ ≠ x.2.1.block by intro x hx; simp only [List.mem_cons, List.not_mem_nil, or_false] at hx; rcases hx with rfl | rfl | rfl | rfl <;> exact n_bw)).kept (hw.mono (Nat.le_of_eq putsTo_size))).cell i
      simp only [Gives]
      go_simp
      exact ⟨Below.refl _ _, rfl⟩
    refine And.intro (fun _ w hz hE hd => ?_) ?_
    · refine And.intro rfl ?_
      simp only [Gives]
      go_simp
      exact ⟨Below.refl _ _, rfl⟩
    refine And.intro (fun _ w hz hE hd => ?_) ?_
    · refine And.intro rfl ?_
      simp only [Gives]
      go_simp
      exact ⟨Below.refl _ _, rfl⟩
    refine And.intro (fun _ w hz hE hd => ?_) ?_
    · have d12 := hd 12 (by decide) rfl rfl
      change vs 12 = _ at d12
      refine And.intro rfl ?_
      obtain ⟨j, hj, hno, hw⟩ := hE
      have c_S4 := fun i => ((box_puts S4 (show ∀ x ∈ ([(22, ⟨bx2, r * 6, none⟩, iv s.x2), (25, ⟨bx2, r * 6 + 1, none⟩, iv s.y2), (28, ⟨bx2, r * 6 + 2, none⟩, iv s.x1), (31, ⟨bx2, r * 6 + 3, none⟩, iv s.y1)] : List (Nat × Addr × Value)), _ ≠ x.2.1.block by intro x hx; simp only [List.mem_cons, List.not_mem_nil, or_false] at hx; rcases hx with rfl | rfl | rfl | rfl <;> exact n_S4)).kept (hw.mono (Nat.le_of_eq putsTo_size))).cell i
      have c_bw := fun i => ((box_puts bw (show ∀ x ∈ ([(22, ⟨bx2, r * 6, none⟩, iv s.x2), (25, ⟨bx2, r * 6 + 1, none⟩, iv s.y2), (28, ⟨bx2, r * 6 + 2, none⟩, iv s.x1), (31, ⟨bx2, r * 6 + 3, none⟩, iv s.y1)] : List (Nat × Addr × Value)), _ ≠ x.2.1.block by intro x hx; simp only [List.mem_cons, List.not_mem_nil, or_false] at hx; rcases hx with rfl | rfl | rfl | rfl <;> exact n_bw)).kept (hw.mono (Nat.le_of_eq putsTo_size))).cell i
      simp only [Gives]
      go_simp
      exact ⟨Below.refl _ _, rfl⟩
    refine And.intro (fun _ w hz hE hd => ?_) ?_
    · refine And.intro rfl ?_
      simp only [Gives]
      go_simp
      exact ⟨Below.refl _ _, rfl⟩
    refine And.intro (fun _ w hz hE hd => ?_) ?_
    · have d14 := hd 14 (by decide) rfl rfl
      change vs 14 = _ at d14
      refine And.intro rfl ?_
      obtain ⟨j, hj, hno, hw⟩ := hE
      have c_S4 := fun i => ((box_puts S4 (show ∀ x ∈ ([(22, ⟨bx2, r * 6, none⟩, iv s.x2), (25, ⟨bx2, r * 6 + 1, none⟩, iv s.y2), (28, ⟨bx2, r * 6 + 2, none⟩, iv s.x1), (31, ⟨bx2, r * 6 + 3, none⟩, iv s.y1)] : List (Nat × Addr × Value)), _ ≠ x.2.1.block by intro x hx; simp only [List.mem_cons, List.not_mem_nil, or_false] at hx; rcases hx with rfl | rfl | rfl | rfl <;> exact n_S4)).kept (hw.mono (Nat.le_of_eq putsTo_size))).cell i
      have c_bw := fun i => ((box_puts bw (show ∀ x ∈ ([(22, ⟨bx2, r * 6, none⟩, iv s.x2), (25, ⟨bx2, r * 6 + 1, none⟩, iv s.y2), (28, ⟨bx2, r * 6 + 2, none⟩, iv s.x1), (31, ⟨bx2, r * 6 + 3, none⟩, iv s.y1)] : List (Nat × Addr × Value)), _ ≠ x.2.1.block by intro x hx; simp only [List.mem_cons, List.not_mem_nil, or_false] at hx; rcases hx with rfl | rfl | rfl | rfl <;> exact n_bw)).kept (hw.mono (Nat.le_of_eq putsTo_size))).cell i
      simp only [Gives]
      go_simp
      exact ⟨Below.refl _ _, rfl⟩
    refine And.intro (fun _ w hz hE hd => ?_) ?_
    · refine And.intro rfl ?_
      simp only [Gives]
      go_simp
      exact ⟨Below.refl _ _, rfl⟩
    refine And.intro (fun _ w hz hE hd => ?_) ?_
    · have d16 := hd 16 (by decide) rfl rfl
      change vs 16 = _ at d16
      refine And.intro rfl ?_
      obtain ⟨j, hj, hno, hw⟩ := hE
      have c_S4 := fun i => ((box_puts S4 (show ∀ x ∈ ([(22, ⟨bx2, r * 6, none⟩, iv s.x2), (25, ⟨bx2, r * 6 + 1, none⟩, iv s.y2), (28, ⟨bx2, r * 6 + 2, none⟩, iv s.x1), (31, ⟨bx2, r * 6 + 3, none⟩, iv s.y1)] : List (Nat × Addr × Value)), _ ≠ x.2.1.block by intro x hx; simp only [List.mem_cons, List.not_mem_nil, or_false] at hx; rcases hx with rfl | rfl | rfl | rfl <;> exact n_S4)).kept (hw.mono (Nat.le_of_eq putsTo_size))).cell i
      have c_bw := fun i => ((box_puts bw (show ∀ x ∈ ([(22, ⟨bx2, r * 6, none⟩, iv s.x2), (25, ⟨bx2, r * 6 + 1, none⟩, iv s.y2), (28, ⟨bx2, r * 6 + 2, none⟩, iv s.x1), (31, ⟨bx2, r * 6 + 3, none⟩, iv s.y1)] : List (Nat × Addr × Value)), _ ≠ x.2.1.block by intro x hx; simp only [List.mem_cons, List.not_mem_nil, or_false] at hx; rcases hx with rfl | rfl | rfl | rfl <;> exact n_bw)).kept (hw.mono (Nat.le_of_eq putsTo_size))).cell i
      simp only [Gives]
      go_simp
      exact ⟨Below.refl _ _, rfl⟩
    refine And.intro (fun _ w hz hE hd => ?_) ?_
    · refine And.intro rfl ?_
      simp only [Gives]
      go_simp
      exact ⟨Below.refl _ _, rfl⟩
    refine And.intro (fun _ w hz hE hd => ?_) ?_
    · have d18 := hd 18 (by decide) rfl rfl
      change vs 18 = _ at d18
      refine And.intro rfl ?_
      obtain ⟨j, hj, hno, hw⟩ := hE
      have c_S4 := fun i => ((box_puts S4 (show ∀ x ∈ ([(22, ⟨bx2, r * 6, none⟩, iv s.x2), (25, ⟨bx2, r * 6 + 1, none⟩, iv s.y2), (28, ⟨bx2, r * 6 + 2, none⟩, iv s.x1), (31, ⟨bx2, r * 6 + 3, none⟩, iv s.y1)] : List (Nat × Addr × Value)), _ ≠ x.2.1.block by intro x hx; simp only [List.mem_cons, List.not_mem_nil, or_false] at hx; rcases hx with rfl | rfl | rfl | rfl <;> exact n_S4)).kept (hw.mono (Nat.le_of_eq putsTo_size))).cell i
      have c_bw := fun i => ((box_puts bw (show ∀ x ∈ ([(22, ⟨bx2, r * 6, none⟩, iv s.x2), (25, ⟨bx2, r * 6 + 1, none⟩, iv s.y2), (28, ⟨bx2, r * 6 + 2, none⟩, iv s.x1), (31, ⟨bx2, r * 6 + 3, none⟩, iv s.y1)] : List (Nat × Addr × Value)), _ ≠ x.2.1.block by intro x hx; simp only [List.mem_cons, List.not_mem_nil, or_false] at hx; rcases hx with rfl | rfl | rfl | rfl <;> exact n_bw)).kept (hw.mono (Nat.le_of_eq putsTo_size))).cell i
      simp only [Gives]
      go_simp
      exact ⟨Below.refl _ _, rfl⟩
    refine And.intro (fun _ w hz hE hd => ?_) ?_
    · have d1 := hd 1 (by decide) rfl rfl
      change vs 1 = _ at d1
      have d2 := hd 2 (by decide) rfl rfl
      change vs 2 = _ at d2
      refine And.intro rfl ?_
      simp only [Gives]
      go_simp
      exact ⟨Below.refl _ _, rfl⟩
    refine And.intro (fun _ w hz hE hd => ?_) ?_
    · have d20 := hd 20 (by decide) rfl rfl
      change vs 20 = _ at d20
      refine And.intro rfl ?_
      simp only [Gives]
      go_simp
      exact ⟨Below.refl _ _, rfl⟩
    refine And.intro (fun h => by cases h) ?_
    refine And.intro (fun _ w hz hE hd => ?_) ?_
    · have d4 := hd 4 (by decide) rfl rfl
      change vs 4 = _ at d4
      have d5 := hd 5 (by decide) rfl rfl
      change vs 5 = _ at d5
      refine And.intro rfl ?_
      simp only [Gives]
      go_simp
      exact ⟨Below.refl _ _, rfl⟩
    refine And.intro (fun _ w hz hE hd => ?_) ?_
    · have d23 := hd 23 (by decide) rfl rfl
      change vs 23 = _ at d23
      refine And.intro rfl ?_
      simp only [Gives]
      go_simp
      exact ⟨Below.refl _ _, rfl⟩
    refine And.intro (fun h => by cases h) ?_
    refine And.intro (fun _ w hz hE hd => ?_) ?_
    · have d7 := hd 7 (by decide) rfl rfl
      change vs 7 = _ at d7
      have d8 := hd 8 (by decide) rfl rfl
      change vs 8 = _ at d8
      refine And.intro rfl ?_
      simp only [Gives]
      go_simp
      exact ⟨Below.refl _ _, rfl⟩
    refine And.intro (fun _ w hz hE hd => ?_) ?_
    · have d26 := hd 26 (by decide) rfl rfl
      change vs 26 = _ at d26
      refine And.intro rfl ?_
      simp only [Gives]
      go_simp
      exact ⟨Below.refl _ _, rfl⟩
    refine And.intro (fun h => by cases h) ?_
    refine And.intro (fun _ w hz hE hd => ?_) ?_
    · have d10 := hd 10 (by decide) rfl rfl
      change vs 10 = _ at d10
      have d11 := hd 11 (by decide) rfl rfl
      change vs 11 = _ at d11
      refine And.intro rfl ?_
      simp only [Gives]
      go_simp
      exact ⟨Below.refl _ _, rfl⟩
    refine And.intro (fun _ w hz hE hd => ?_) ?_
    · have d29 := hd 29 (by decide) rfl rfl
      change vs 29 = _ at d29
      refine And.intro rfl ?_
      simp only [Gives]
      go_simp
      exact ⟨Below.refl _ _, rfl⟩
    refine And.intro (fun h => by cases h) ?_
    exact trivial
  case hp =>
    intro vs m x o hx ho w hw hd
    rcases m with _ | _ | _ | _ | m
    · obtain rfl := Option.some.inj hx
      obtain rfl := Option.some.inj ho
      have d21 := hd 21 (by decide) rfl rfl
      change vs 21 = _ at d21
      have d13 := hd 13 (by decide) rfl rfl
      change vs 13 = _ at d13
      simp only [List.take_zero, putsTo] at hw
      refine And.intro rfl ?_
      have C := T0.out.kept hw
      have q0 : w.cell? ⟨bx2, r * 6, none⟩ = some (iv s.x1) := C.rgCell (j := 0) HS.out (by omega) rfl
      have f0 : w.frozen? ⟨bx2, r * 6, none⟩ = false := own_free C.o2
      simp only [Gives]
      go_simp
      exact rfl
    · obtain rfl := Option.some.inj hx
      obtain rfl := Option.some.inj ho
      have d24 := hd 24 (by decide) rfl rfl
      change vs 24 = _ at d24
      have d15 := hd 15 (by decide) rfl rfl
      change vs 15 = _ at d15
      simp only [List.take_succ_cons, List.take_zero, putsTo] at hw
      refine And.intro rfl ?_
      have C := T1.out.kept (hw.mono (by simp [World.setCell]))
      have q0 : w.cell? ⟨bx2, r * 6 + 1, none⟩ = some (iv s.y1) := C.rgCell (j := 1) (set_get HS.out) (by simp [setRg]; omega) rfl
      have f0 : w.frozen? ⟨bx2, r * 6 + 1, none⟩ = false := own_free C.o2
      simp only [Gives]
      go_simp
      exact rfl
    · obtain rfl := Option.some.inj hx
      obtain rfl := Option.some.inj ho
      have d27 := hd 27 (by decide) rfl rfl
      change vs 27 = _ at d27
      have d17 := hd 17 (by decide) rfl rfl
      change vs 17 = _ at d17
      simp only [List.take_succ_cons, List.take_zero, putsTo] at hw
      refine And.intro rfl ?_
      have C := T2.out.kept (hw.mono (by simp [World.setCell]))
      have q0 : w.cell? ⟨bx2, r * 6 + 2, none⟩ = some (iv s.x2) := C.rgCell (j := 2) (set_get (set_get HS.out)) (by simp [setRg]; omega) rfl
      have f0 : w.frozen? ⟨bx2, r * 6 + 2, none⟩ = false := own_free C.o2
      simp only [Gives]
      go_simp
      exact rfl
    · obtain rfl := Option.some.inj hx
      obtain rfl := Option.some.inj ho
      have d30 := hd 30 (by decide) rfl rfl
      change vs 30 = _ at d30
      have d19 := hd 19 (by decide) rfl rfl
      change vs 19 = _ at d19
      simp only [List.take_succ_cons, List.take_zero, putsTo] at hw
      refine And.intro rfl ?_
      have C := T3.out.kept (hw.mono (by simp [World.setCell]))
      have q0 : w.cell? ⟨bx2, r * 6 + 3, none⟩ = some (iv s.y2) := C.rgCell (j := 3) (set_get (set_get (set_get HS.out))) (by simp [setRg]; omega) rfl
      have f0 : w.frozen? ⟨bx2, r * 6 + 3, none⟩ = false := own_free C.o2
      simp only [Gives]
      go_simp
      exact rfl
    · simp at hx
  intro vs wt hw hd
  simp only [putsTo] at hw
  have d0 := hd 0 (by decide) rfl
  change vs 0 = _ at d0
  have d1 := hd 1 (by decide) rfl
  change vs 1 = _ at d1
  have d2 := hd 2 (by decide) rfl
  change vs 2 = _ at d2
  have d3 := hd 3 (by decide) rfl
  change vs 3 = _ at d3
  have d4 := hd 4 (by decide) rfl
  change vs 4 = _ at d4
  have d5 := hd 5 (by decide) rfl
  change vs 5 = _ at d5
  have d6 := hd 6 (by decide) rfl
  change vs 6 = _ at d6
  have d7 := hd 7 (by decide) rfl
  change vs 7 = _ at d7
  have d8 := hd 8 (by decide) rfl
  change vs 8 = _ at d8
  have d9 := hd 9 (by decide) rfl
  change vs 9 = _ at d9
  have d10 := hd 10 (by decide) rfl
  change vs 10 = _ at d10
  have d11 := hd 11 (by decide) rfl
  change vs 11 = _ at d11
  have d12 := hd 12 (by decide) rfl
  change vs 12 = _ at d12
  have d13 := hd 13 (by decide) rfl
  change vs 13 = _ at d13
  have d14 := hd 14 (by decide) rfl
  change vs 14 = _ at d14
  have d15 := hd 15 (by decide) rfl
  change vs 15 = _ at d15
  have d16 := hd 16 (by decide) rfl
  change vs 16 = _ at d16
  have d17 := hd 17 (by decide) rfl
  change vs 17 = _ at d17
  have d18 := hd 18 (by decide) rfl
  change vs 18 = _ at d18
  have d19 := hd 19 (by decide) rfl
  change vs 19 = _ at d19
  have d20 := hd 20 (by decide) rfl
  change vs 20 = _ at d20
  have d21 := hd 21 (by decide) rfl
  change vs 21 = _ at d21
  have d23 := hd 23 (by decide) rfl
  change vs 23 = _ at d23
  have d24 := hd 24 (by decide) rfl
  change vs 24 = _ at d24
  have d26 := hd 26 (by decide) rfl
  change vs 26 = _ at d26
  have d27 := hd 27 (by decide) rfl
  change vs 27 = _ at d27
  have d29 := hd 29 (by decide) rfl
  change vs 29 = _ at d29
  have d30 := hd 30 (by decide) rfl
  change vs 30 = _ at d30
  simp only [d0, d1, d2, d3, d4, d5, d6, d7, d8, d9, d10, d11, d12, d13, d14, d15, d16, d17, d18, d19, d20, d21, d23, d24, d26, d27, d29, d30, List.drop_succ_cons, List.drop_nil]
  clear hd d0 d1 d2 d3 d4 d5 d6 d7 d8 d9 d10 d11 d12 d13 d14 d15 d16 d17 d18 d19 d20 d21 d23 d24 d26 d27 d29 d30
  have X4 := T4.out.kept (hw.mono (by simp [World.setCell]))
  rw [set_set, set_set, set_set] at X4
  have hg4 : ws.grownBy ((((ws.setCell ⟨bx2, r * 6, none⟩ (iv s.x2)).setCell ⟨bx2, r * 6 + 1, none⟩ (iv s.y2)).setCell ⟨bx2, r * 6 + 2, none⟩ (iv s.x1)).setCell ⟨bx2, r * 6 + 3, none⟩ (iv s.y1)) (some bx2) := (((grownBy_set _ _ _ _).trans (grownBy_set _ _ _ _)).trans (grownBy_set _ _ _ _)).trans (grownBy_set _ _ _ _)
  have hg5 := hg4.trans ((grown_of_below (hw.mono (by simp [World.setCell]))).but _)
  have OX2r : ∀ b, some bx2 = some b → lo 1 ≤ b ∧ b < hi 1 := fun b e => by cases e; exact OX2
  have HQ := Lib.hid (HQ.out.but hg5 OX2r (off_of HQL.out (by omega)))
  have XB := Lib.hid (S4.grown hg5 (fun e => n_S4 (Option.some.inj e)))
  have QB := Lib.hid (S5.grown hg5 (fun e => by have := Option.some.inj e; omega))
  have BW := Lib.hid (bw.grown hg5 (fun e => n_bw (Option.some.inj e)))
  have BX := Lib.hid (BX.out.grown hg5 (fun e => by have := Option.some.inj e; omega))
  have HB := Lib.hid (HB.out.grown hg5 HB.out.size (fun b e => by cases e; omega))
  have HT := Lib.hid (HT0.out.kept HB.out)
  have HX := Lib.hid (X4.land (by simp [setRg]; omega) (by simp [setRg]; omega) (by simp [setRg]; omega) (by simp [setRg]; omega) hlen.out)
  clear X4 hg4 hg5 OX2r S4 S5 bw hw T0 T1 T2 T3 T4 n_S4 n_bw HXL OX2
  have BB := BX.out
  have cB := fun i => BB.cell i
  have BB := XB.out
  have cB := fun i => BB.cell i
  go_wp2_with fail
  clear cB BB
  clear cB BB
  refine (alike_any _ _ _ _ _ _ _ _ L (setRg L r (swapW s)) c _ i j _ HT.out HX.out HALX.out).mono ?_
  rintro e y3 ⟨rfl, hb⟩
  clear HX XB
  have HB := Lib.hid (up_later HB.out hb)
  have HT := Lib.hid (HT.out.kept hb)
  have BX := Lib.hid (BX.out.kept hb)
  have BW := Lib.hid (BW.out.kept hb)
  have QB := Lib.hid (QB.out.kept hb)
  have HQ := Lib.hid (HQ.out.kept hb)
  clear hb
  have hr9 := Hrg.out
  simp only [rgB, wlB, Bool.and_eq_true, inB_iff, Bool.not_eq_true', Bool.and_eq_false_iff, beq_eq_false_iff_ne, beq_iff_eq, decide_eq_true_eq] at hr9
  obtain ⟨⟨⟨⟨⟨⟨⟨⟨⟨v1, v2⟩, ⟨v3, v4⟩⟩, ⟨v5, v6⟩⟩, ⟨v7, v8⟩⟩, _⟩, _⟩, ⟨v9, v10⟩⟩, _⟩, hb0⟩ := hr9
  have Hb0 := Lib.hid hb0
  obtain ⟨m, hm, hm5⟩ := nat_mod (x := z) (n := 5) (by omega)
  have hm' : z % 5 = (m : Int) := hm
  have HM := Lib.hid hm'
  have m0 : (0 : Int) ≤ (m : Int) := by omega
  have m5 : (m : Int) < 5 := by omega
  clear hm hm' hb0
  have nz2 : ¬ 2 + (m : Int) = 0 := by omega
  have nz3 : (2 + (m : Int) == 0) = false := by rw [beq_eq_false_iff_ne]; omega
  go_upto_region 11 with fail
  rw [HM.out]
  have BB := BW.out
  have cB := fun i => BB.cell i
  by_cases hd1 : (s.x2 - s.x1).tmod (2 + (m : Int)) = 0
  case neg =>
    have e1 : ((s.x2 - s.x1).tmod (2 + (m : Int)) != 0) = true := by simpa using hd1
    go_wp2_with fail
    clear cB BB
    refine (awake_any _).mono ?_
    rintro e y9 ⟨rfl, hb⟩
    go_wp2_with fail
    go_ret
    exact ⟨by simp [go_sem], up_later HB.out hb⟩
  have e1 : ((s.x2 - s.x1).tmod (2 + (m : Int)) != 0) = false := by simp [hd1]
  by_cases hd2 : (s.y2 - s.y1).tmod (2 + (m : Int)) = 0
  case neg =>
    have e2 : ((s.y2 - s.y1).tmod (2 + (m : Int)) != 0) = true := by simpa using hd2
    have Hd1 := Lib.hid hd1
    clear hd1
    go_wp2_with fail
    clear cB BB
    refine (awake_any _).mono ?_
    rintro e y9 ⟨rfl, hb⟩
    go_wp2_with fail
    go_ret
    exact ⟨by simp [go_sem], up_later HB.out hb⟩
  have e2 : ((s.y2 - s.y1).tmod (2 + (m : Int)) != 0) = false := by simp [hd2]
  have Hd1 := Lib.hid hd1
  have Hd2 := Lib.hid hd2
  clear hd1 hd2
  obtain ⟨kk, hk, hkk⟩ := nat_mod (x := z / 8) (n := m + 1) (by omega)
  have hk' : z / 8 % (2 + (m : Int) - 1) = (kk : Int) := by rw [← hk]; congr 1; omega
  have HK := Lib.hid hk'
  have kb1 : 0 ≤ z / 8 % (2 + (m : Int) - 1) := by omega
  have kb2 : z / 8 % (2 + (m : Int) - 1) ≤ 4 := by omega
  have kz1 : ¬ 2 + (m : Int) - 1 = 0 := by omega
  have kz2 : (2 + (m : Int) - 1 == 0) = false := by rw [beq_eq_false_iff_ne]; omega
  clear hk hk'
  go_upto_region 14 with fail
  rw [HK.out]
  clear cB BB e1 e2 kb1 kb2 kz1 kz2
  obtain ⟨q, hq⟩ : ∃ q, (s.x2 - s.x1).tdiv (2 + (m : Int)) = q := ⟨_, rfl⟩
  obtain ⟨p, hp⟩ : ∃ p, (s.y2 - s.y1).tdiv (2 + (m : Int)) = p := ⟨_, rfl⟩
  have hx2 : s.x2 = s.x1 + (2 + (m : Int)) * q := by
    have h := Int.mul_tdiv_add_tmod (s.x2 - s.x1) (2 + (m : Int))
    rw [Hd1.out, hq] at h
    omega
  have hy2 : s.y2 = s.y1 + (2 + (m : Int)) * p := by
    have h := Int.mul_tdiv_add_tmod (s.y2 - s.y1) (2 + (m : Int))
    rw [Hd2.out, hp] at h
    omega
  obtain ⟨kI, hkI⟩ : ∃ k : Int, k = 1 + (kk : Int) := ⟨_, rfl⟩
  have kI1 : 0 < kI := by omega
  have kI2 : kI < 2 + (m : Int) := by omega
  have hu9 := part_bd kI1 kI2 ⟨v1, v2⟩ (by rw [← hx2]; exact ⟨v5, v6⟩)
  have hv9 := part_bd kI1 kI2 ⟨v3, v4⟩ (by rw [← hy2]; exact ⟨v7, v8⟩)
  obtain ⟨u, hu⟩ : ∃ u, u = s.x1 + kI * q := ⟨_, rfl⟩
  obtain ⟨v, hv⟩ : ∃ u, u = s.y1 + kI * p := ⟨_, rfl⟩
  have hrgs := Hrg.out
  have hse : s = ⟨s.x1, s.y1, s.x1 + (2 + (m : Int)) * q, s.y1 + (2 + (m : Int)) * p, s.b, s.t⟩ := by rw [← hx2, ← hy2]
  have hz2 : (⟨u, v, s.x2, s.y2, 0, s.t⟩ : Wl) = ⟨s.x1 + kI * q, s.y1 + kI * p, s.x1 + (2 + (m : Int)) * q, s.y1 + (2 + (m : Int)) * p, 0, s.t⟩ := by rw [hu, hv, ← hx2, ← hy2]
  have hr1 : rgB ⟨s.x1, s.y1, u, v, s.b, s.t⟩ = true := by rw [hu, hv]; exact rg_first kI1 kI2 (by rw [← hse]; exact hrgs)
  have hr2 : rgB ⟨u, v, s.x2, s.y2, 0, s.t⟩ = true := by rw [hz2]; exact rg_second (b := s.b) kI1 kI2 (by rw [← hse]; exact hrgs)
  have heY : errI (divLd L r ⟨s.x1, s.y1, u, v, s.b, s.t⟩ ⟨u, v, s.x2, s.y2, 0, s.t⟩) = 0 := err_div hn7 hr1 hr2 He.out
  have hbd : ∀ a b, blocksW a b s = (blocksW a b ⟨s.x1, s.y1, u, v, s.b, s.t⟩ || blocksW a b ⟨u, v, s.x2, s.y2, 0, s.t⟩) := fun a b => by
    rw [hz2, hu, hv, ← Hb0.out]
    have := block_divided (s := a) (t := b) (x1 := s.x1) (y1 := s.y1) (dx := q) (dy := p) (b := s.b) (tp := s.t) kI1 kI2
    rw [← this, ← hse]
  obtain ⟨b1, hB1⟩ : ∃ b, blocksW (stAt L i) (stAt L j) ⟨s.x1, s.y1, u, v, s.b, s.t⟩ = b := ⟨_, rfl⟩
  obtain ⟨c1, hB2⟩ : ∃ b, blocksW (stAt L i) (stAt L j) ⟨u, v, s.x2, s.y2, 0, s.t⟩ = b := ⟨_, rfl⟩
  have HW1 := Lib.hid (show withinB [(r : Int)] (ridgesI L i j) = (b1 || c1) by
    rw [← hB1, ← hB2, ← hbd]
    exact which_at HS.out)
  have HW2 := Lib.hid (show withinB [(r : Int)] (ridgesI (divLd L r ⟨s.x1, s.y1, u, v, s.b, s.t⟩ ⟨u, v, s.x2, s.y2, 0, s.t⟩) i j) = b1 by
    rw [← hB1]
    exact which_div1 HS.out)
  have HW3 := Lib.hid (show withinB [(L.rg.length : Int)] (ridgesI (divLd L r ⟨s.x1, s.y1, u, v, s.b, s.t⟩ ⟨u, v, s.x2, s.y2, 0, s.t⟩) i j) = c1 by
    rw [← hB2]
    exact which_div2)
  have HRY := Lib.hid (rise_divided (i := i) (j := j) HS.out He.out heY hin hjn hij hc0 hs0 hbd)
  have HWL := Lib.hid (show wallsE L i j 0 0 = (ridgesI L i j, cloudsI L i j 0 0, 0) by
    have := o1 0 0 hc0 hs0
    unfold wallsE
    rw [if_neg (by simpa using this)])
  have HWY := Lib.hid (show wallsE (divLd L r ⟨s.x1, s.y1, u, v, s.b, s.t⟩ ⟨u, v, s.x2, s.y2, 0, s.t⟩) i j 0 0 = (ridgesI (divLd L r ⟨s.x1, s.y1, u, v, s.b, s.t⟩ ⟨u, v, s.x2, s.y2, 0, s.t⟩) i j, cloudsI (divLd L r ⟨s.x1, s.y1, u, v, s.b, s.t⟩ ⟨u, v, s.x2, s.y2, 0, s.t⟩) i j 0 0, 0) by
    have := open_zero (L := divLd L r ⟨s.x1, s.y1, u, v, s.b, s.t⟩ ⟨u, v, s.x2, s.y2, 0, s.t⟩) (i := i) (j := j) (k := 0) (h := 0) heY hin hjn hc0 hs0 hij
    unfold wallsE
    rw [if_neg (by simpa using this)])
  clear hB1 hB2 hbd heY hr1 hr2 hz2 hse hrgs
  have mq := mul_in (s.x2 - s.x1) 1 100 1 (by omega) (by omega) (by omega) (by omega)
  have qb : -100 ≤ q ∧ q ≤ 100 := by
    rw [← hq]
    have h := Int.natAbs_tdiv_le_natAbs (s.x2 - s.x1) (2 + (m : Int))
    omega
  have pb : -100 ≤ p ∧ p ≤ 100 := by
    rw [← hp]
    have h := Int.natAbs_tdiv_le_natAbs (s.y2 - s.y1) (2 + (m : Int))
    omega
  have mqk := mul_in q (1 + (kk : Int)) 100 5 (by omega) (by omega) (by omega) (by omega)
  have mpk := mul_in p (1 + (kk : Int)) 100 5 (by omega) (by omega) (by omega) (by omega)
  have D1 : IntKind.i64.wrap (s.x2 - s.x1) = s.x2 - s.x1 := wrapK_in _ 2000 (by omega) (by omega)
  have D2 : IntKind.i64.wrap (s.y2 - s.y1) = s.y2 - s.y1 := wrapK_in _ 2000 (by omega) (by omega)
  have D3 : IntKind.i64.wrap q = q := wrapK_in _ 2000 (by omega) (by omega)
  have D4 : IntKind.i64.wrap p = p := wrapK_in _ 2000 (by omega) (by omega)
  have D5 : IntKind.i64.wrap (q * (1 + (kk : Int))) = q * (1 + (kk : Int)) := wrapK_in _ 2000 (by omega) (by omega)
  have D6 : IntKind.i64.wrap (p * (1 + (kk : Int))) = p * (1 + (kk : Int)) := wrapK_in _ 2000 (by omega) (by omega)
  have D7 : IntKind.i64.wrap (s.x1 + q * (1 + (kk : Int))) = u := by rw [hu, hkI, Int.mul_comm (1 + (kk : Int)) q]; exact wrapK_in _ 2000 (by omega) (by omega)
  have D8 : IntKind.i64.wrap (s.y1 + p * (1 + (kk : Int))) = v := by rw [hv, hkI, Int.mul_comm (1 + (kk : Int)) p]; exact wrapK_in _ 2000 (by omega) (by omega)
  have Hu := Lib.hid hu
  have Hv := Lib.hid hv
  have Hx2 := Lib.hid hx2
  have Hy2 := Lib.hid hy2
  clear hu hv hx2 hy2 hkI mq mqk mpk
  have bw := BW.out
  apply wp_region_by 26 [(Fact.eq _), (Fact.eq _), (Fact.eq _), (Fact.eq _), (Fact.eq _), (Fact.eq _), (Fact.eq _), (Fact.eq _), (Fact.eq _), (Fact.eq _), (Fact.eq _), (Fact.eq _), (Fact.eq _), (Fact.eq _), (Fact.eq _), (Fact.eq _), (Fact.eq _), (Fact.eq _), (Fact.eq _), (Fact.eq _), (Fact.eq _), (Fact.eq _), (Fact.eq _), (Fact.eq _), (Fact.eq _), (Fact.eq _)]
  case hm => kernel_rfl
  case hB => kernel_rfl
  case hA => (intro vs; simp only [List.take_succ_cons, List.take_zero, putAll, if_true, Act.put, List.setIfInBounds_toArray, List.set_cons_zero, List.set_cons_succ]; exact rfl)
  case hstep =>
    intro vs
    refine And.intro (fun w hw hd => ?_) ?_
    · refine ite_yes rfl ?_
      simp only [Gives]
      go_simp
      exact ⟨Below.refl _ _, rfl, fun h => by cases h⟩
    refine And.intro (fun w hw hd => ?_) ?_
    · have d0 := hd 0 (by decide) rfl
      change vs 0 = _ at d0
      refine ite_yes rfl ?_
      have c_bw := fun i => (bw.kept hw).cell i
      simp only [Gives]
      go_simp
      exact ⟨Below.refl _ _, rfl, fun h => by cases h⟩
    refine And.intro (fun w hw hd => ?_) ?_
    · refine ite_yes rfl ?_
      simp only [Gives]
      go_simp
      exact ⟨Below.refl _ _, rfl, fun h => by cases h⟩
    refine And.intro (fun w hw hd => ?_) ?_
    · have d2 := hd 2 (by decide) rfl
      change vs 2 = _ at d2
      refine ite_yes rfl ?_
      have c_bw := fun i => (bw.kept hw).cell i
      simp only [Gives]
      go_simp
      exact ⟨Below.refl _ _, rfl, fun h => by cases h⟩
    refine And.intro (fun w hw hd => ?_) ?_
    · refine ite_yes rfl ?_
      simp only [Gives]
      go_simp
      exact ⟨Below.refl _ _, rfl, fun h => by cases h⟩
    refine And.intro (fun w hw hd => ?_) ?_
    · have d4 := hd 4 (by decide) rfl
      change vs 4 = _ at d4
      refine ite_yes rfl ?_
      have c_bw := fun i => (bw.kept hw).cell i
      simp only [Gives]
      go_simp
      exact ⟨Below.refl _ _, rfl, fun h => by cases h⟩
    refine And.intro (fun w hw hd => ?_) ?_
    · have d3 := hd 3 (by decide) rfl
      change vs 3 = _ at d3
      have d5 := hd 5 (by decide) rfl
      change vs 5 = _ at d5
      refine ite_yes rfl ?_
      simp only [Gives]
      go_simp
      exact ⟨Below.refl _ _, rfl, fun h => by cases h⟩
    refine And.intro (fun w hw hd => ?_) ?_
    · refine ite_yes rfl ?_
      simp only [Gives]
      go_simp
      exact ⟨Below.refl _ _, rfl, fun h => by cases h⟩
    refine And.intro (fun w hw hd => ?_) ?_
    · have d6 := hd 6 (by decide) rfl
      change vs 6 = _ at d6
      have d7 := hd 7 (by decide) rfl
      change vs 7 = _ at d7
      refine ite_yes rfl ?_
      simp only [Gives]
      go_simp
      exact ⟨Below.refl _ _, rfl, fun h => by cases h⟩
    refine And.intro (fun w hw hd => ?_) ?_
    · refine ite_yes rfl ?_
      simp only [Gives]
      go_simp
      exact ⟨Below.refl _ _, rfl, fun h => by cases h⟩
    refine And.intro (fun w hw hd => ?_) ?_
    · have d8 := hd 8 (by decide) rfl
      change vs 8 = _ at d8
      have d9 := hd 9 (by decide) rfl
      change vs 9 = _ at d9
      refine ite_yes rfl ?_
      simp only [Gives]
      go_simp
      exact ⟨Below.refl _ _, rfl, fun h => by cases h⟩
    refine And.intro (fun w hw hd => ?_) ?_
    · have d1 := hd 1 (by decide) rfl
      change vs 1 = _ at d1
      have d10 := hd 10 (by decide) rfl
      change vs 10 = _ at d10
      refine ite_yes rfl ?_
      simp only [Gives]
      go_simp
      exact ⟨Below.refl _ _, rfl, fun h => by cases h⟩
    refine And.intro (fun w hw hd => ?_) ?_
    · refine ite_yes rfl ?_
      simp only [Gives]
      go_simp
      exact ⟨Below.refl _ _, rfl, fun h => by cases h⟩
    refine And.intro (fun w hw hd => ?_) ?_
    · have d12 := hd 12 (by decide) rfl
      change vs 12 = _ at d12
      refine ite_yes rfl ?_
      have c_bw := fun i => (bw.kept hw).cell i
      simp only [Gives]
      go_simp
      exact ⟨Below.refl _ _, rfl, fun h => by cases h⟩
    refine And.intro (fun w hw hd => ?_) ?_
    · refine ite_yes rfl ?_
      simp only [Gives]
      go_simp
      exact ⟨Below.refl _ _, rfl, fun h => by cases h⟩
    refine And.intro (fun w hw hd => ?_) ?_
    · have d14 := hd 14 (by decide) rfl
      change vs 14 = _ at d14
      refine ite_yes rfl ?_
      have c_bw := fun i => (bw.kept hw).cell i
      simp only [Gives]
      go_simp
      exact ⟨Below.refl _ _, rfl, fun h => by cases h⟩
    refine And.intro (fun w hw hd => ?_) ?_
    · refine ite_yes rfl ?_
      simp only [Gives]
      go_simp
      exact ⟨Below.refl _ _, rfl, fun h => by cases h⟩
    refine And.intro (fun w hw hd => ?_) ?_
    · have d16 := hd 16 (by decide) rfl
      change vs 16 = _ at d16
      refine ite_yes rfl ?_
      have c_bw := fun i => (bw.kept hw).cell i
      simp only [Gives]
      go_simp
      exact ⟨Below.refl _ _, rfl, fun h => by cases h⟩
    refine And.intro (fun w hw hd => ?_) ?_
    · have d15 := hd 15 (by decide) rfl
      change vs 15 = _ at d15
      have d17 := hd 17 (by decide) rfl
      change vs 17 = _ at d17
      refine ite_yes rfl ?_
      simp only [Gives]
      go_simp
      exact ⟨Below.refl _ _, rfl, fun h => by cases h⟩
    refine And.intro (fun w hw hd => ?_) ?_
    · refine ite_yes rfl ?_
      simp only [Gives]
      go_simp
      exact ⟨Below.refl _ _, rfl, fun h => by cases h⟩
    refine And.intro (fun w hw hd => ?_) ?_
    · have d18 := hd 18 (by decide) rfl
      change vs 18 = _ at d18
      have d19 := hd 19 (by decide) rfl
      change vs 19 = _ at d19
      refine ite_yes rfl ?_
      simp only [Gives]
      go_simp
      exact ⟨Below.refl _ _, rfl, fun h => by cases h⟩
    refine And.intro (fun w hw hd => ?_) ?_
    · refine ite_yes rfl ?_
      simp only [Gives]
      go_simp
      exact ⟨Below.refl _ _, rfl, fun h => by cases h⟩
    refine And.intro (fun w hw hd => ?_) ?_
    · have d20 := hd 20 (by decide) rfl
      change vs 20 = _ at d20
      have d21 := hd 21 (by decide) rfl
      change vs 21 = _ at d21
      refine ite_yes rfl ?_
      simp only [Gives]
      go_simp
      exact ⟨Below.refl _ _, rfl, fun h => by cases h⟩
    refine And.intro (fun w hw hd => ?_) ?_
    · have d13 := hd 13 (by decide) rfl
      change vs 13 = _ at d13
      have d22 := hd 22 (by decide) rfl
      change vs 22 = _ at d22
      refine ite_yes rfl ?_
      simp only [Gives]
      go_simp
      exact ⟨Below.refl _ _, rfl, fun h => by cases h⟩
    refine And.intro (fun w hw hd => ?_) ?_
    · have d11 := hd 11 (by decide) rfl
      change vs 11 = _ at d11
      refine ite_yes rfl ?_
      simp only [Gives]
      go_simp
      exact ⟨Below.refl _ _, rfl, fun h => by cases h⟩
    refine And.intro (fun w hw hd => ?_) ?_
    · have d23 := hd 23 (by decide) rfl
      change vs 23 = _ at d23
      refine ite_yes rfl ?_
      simp only [Gives]
      go_simp
      exact ⟨Below.refl _ _, rfl, fun h => by cases h⟩
    exact trivial
  intro vs wt hw hd hne hlo
  have d0 := hd 0 (by decide)
  change vs 0 = _ at d0
  have d1 := hd 1 (by decide)
  change vs 1 = _ at d1
  have d2 := hd 2 (by decide)
  change vs 2 = _ at d2
  have d3 := hd 3 (by decide)
  change vs 3 = _ at d3
  have d4 := hd 4 (by decide)
  change vs 4 = _ at d4
  have d5 := hd 5 (by decide)
  change vs 5 = _ at d5
  have d6 := hd 6 (by decide)
  change vs 6 = _ at d6
  have d7 := hd 7 (by decide)
  change vs 7 = _ at d7
  have d8 := hd 8 (by decide)
  change vs 8 = _ at d8
  have d9 := hd 9 (by decide)
  change vs 9 = _ at d9
  have d10 := hd 10 (by decide)
  change vs 10 = _ at d10
  have d11 := hd 11 (by decide)
  change vs 11 = _ at d11
  have d12 := hd 12 (by decide)
  change vs 12 = _ at d12
  have d13 := hd 13 (by decide)
  change vs 13 = _ at d13
  have d14 := hd 14 (by decide)
  change vs 14 = _ at d14
  have d15 := hd 15 (by decide)
  change vs 15 = _ at d15
  have d16 := hd 16 (by decide)
  change vs 16 = _ at d16
  have d17 := hd 17 (by decide)
  change vs 17 = _ at d17
  have d18 := hd 18 (by decide)
  change vs 18 = _ at d18
  have d19 := hd 19 (by decide)
  change vs 19 = _ at d19
  have d20 := hd 20 (by decide)
  change vs 20 = _ at d20
  have d21 := hd 21 (by decide)
  change vs 21 = _ at d21
  have d22 := hd 22 (by decide)
  change vs 22 = _ at d22
  have d23 := hd 23 (by decide)
  change vs 23 = _ at d23
  have d24 := hd 24 (by decide)
  change vs 24 = _ at d24
  have d25 := hd 25 (by decide)
  change vs 25 = _ at d25
  simp only [d0, d1, d2, d3, d4, d5, d6, d7, d8, d9, d10, d11, d12, d13, d14, d15, d16, d17, d18, d19, d20, d21, d22, d23, d24, d25, List.drop_succ_cons, List.drop_nil]
  have bw := bw.kept hw
  have c_bw := fun i => bw.cell i
  have f_bw := fun i => bw.free i
  clear hd hne hlo d0 d1 d2 d3 d4 d5 d6 d7 d8 d9 d10 d11 d12 d13 d14 d15 d16 d17 d18 d19 d20 d21 d22 d23 d24 d25
  have hb := hw
  clear bw c_bw f_bw hw D1 D2 D3 D4 D5 D6 D7 D8 hq hp
  have HB := Lib.hid (up_later HB.out hb)
  have HT := Lib.hid (HT.out.kept hb)
  have BX := Lib.hid (BX.out.kept hb)
  have BW := Lib.hid (BW.out.kept hb)
  have QB := Lib.hid (QB.out.kept hb)
  have HQ := Lib.hid (HQ.out.kept hb)
  clear hb
  go_upto_region 15 with fail
  obtain ⟨wp, rfl⟩ : ∃ x : World, x = wt := ⟨_, rfl⟩
  have qbx := QB.out
  have n_qbx : lo 5 ≠ bq2 := by omega
  have t1 := HQ.out.putRg (s' := ⟨s.x1, s.y1, u, s.y2, s.b, s.t⟩) (j := 2) (u := iv u) HS.out (by decide) rfl (by decide) (by decide) (by decide) (by decide)
  have t2 := t1.putRg (s' := ⟨s.x1, s.y1, u, v, s.b, s.t⟩) (j := 3) (u := iv v) (set_get HS.out) (by decide) rfl (by decide) (by decide) (by decide) (by decide)
  have T1 := Lib.hid t1
  have T2 := Lib.hid t2
  clear t1 t2
  apply wp_region_puts 14 [(10, ⟨bq2, r * 6 + 2, none⟩, iv u), (13, ⟨bq2, r * 6 + 3, none⟩, iv v)] [_, _, _, _, _, _, _, _, _, _, undef, _, _, undef]
  case hm => kernel_rfl
  case hB => kernel_rfl
  case hS => kernel_rfl
  case hA => (intro vs; simp only [List.take_succ_cons, List.take_zero, putAll, if_true, Act.put, List.setIfInBounds_toArray, List.set_cons_zero, List.set_cons_succ]; exact rfl)
  case hstep =>
    intro vs
    refine And.intro (fun _ w hz hE hd => ?_) ?_
    · refine And.intro rfl ?_
      simp only [Gives]
      go_simp
      exact ⟨Below.refl _ _, rfl⟩
    refine And.intro (fun _ w hz hE hd => ?_) ?_
    · have d0 := hd 0 (by decide) rfl rfl
      change vs 0 = _ at d0
      refine And.intro rfl ?_
      obtain ⟨j, hj, hno, hw⟩ := hE
      have c_qbx := fun i => ((box_puts qbx (show ∀ x ∈ ([(10, ⟨bq2, r * 6 + 2, none⟩, iv u), (13, ⟨bq2, r * 6 + 3, none⟩, iv v)] : List (Nat × Addr × Value)), _ ≠ x.2.1.block by intro x hx; simp only [List.mem_cons, List.not_mem_nil, or_false] at hx; rcases hx with rfl | rfl <;> exact n_qbx)).kept (hw.mono (Nat.le_of_eq putsTo_size))).cell i
      simp only [Gives]
      go_simp
      exact ⟨Below.refl _ _, rfl⟩
    refine And.intro (fun _ w hz hE hd => ?_) ?_
    · refine And.intro rfl ?_
      simp only [Gives]
      go_simp
      exact ⟨Below.refl _ _, rfl⟩
    refine And.intro (fun _ w hz hE hd => ?_) ?_
    · refine And.intro rfl ?_
      simp only [Gives]
      go_simp
      exact ⟨Below.refl _ _, rfl⟩
    refine And.intro (fun _ w hz hE hd => ?_) ?_
    · have d3 := hd 3 (by decide) rfl rfl
      change vs 3 = _ at d3
      refine And.intro rfl ?_
      obtain ⟨j, hj, hno, hw⟩ := hE
      have c_qbx := fun i => ((box_puts qbx (show ∀ x ∈ ([(10, ⟨bq2, r * 6 + 2, none⟩, iv u), (13, ⟨bq2, r * 6 + 3, none⟩, iv v)] : List (Nat × Addr × Value)), _ ≠ x.2.1.block by intro x hx; simp only [List.mem_cons, List.not_mem_nil, or_false] at hx; rcases hx with rfl | rfl <;> exact n_qbx)).kept (hw.mono (Nat.le_of_eq putsTo_size))).cell i
      simp only [Gives]
      go_simp
      exact ⟨Below.refl _ _, rfl⟩
    refine And.intro (fun _ w hz hE hd => ?_) ?_
    · refine And.intro rfl ?_
      simp only [Gives]
      go_simp
      exact ⟨Below.refl _ _, rfl⟩
    refine And.intro (fun _ w hz hE hd => ?_) ?_
    · refine And.intro rfl ?_
      simp only [Gives]
      go_simp
      exact ⟨Below.refl _ _, rfl⟩
    refine And.intro (fun _ w hz hE hd => ?_) ?_
    · refine And.intro rfl ?_
      simp only [Gives]
      go_simp
      exact ⟨Below.refl _ _, rfl⟩
    refine And.intro (fun _ w hz hE hd => ?_) ?_
    · have d1 := hd 1 (by decide) rfl rfl
      change vs 1 = _ at d1
      have d2 := hd 2 (by decide) rfl rfl
      change vs 2 = _ at d2
      refine And.intro rfl ?_
      simp only [Gives]
      go_simp
      exact ⟨Below.refl _ _, rfl⟩
    refine And.intro (fun _ w hz hE hd => ?_) ?_
    · have d8 := hd 8 (by decide) rfl rfl
      change vs 8 = _ at d8
      refine And.intro rfl ?_
      simp only [Gives]
      go_simp
      exact ⟨Below.refl _ _, rfl⟩
    refine And.intro (fun h => by cases h) ?_
    refine And.intro (fun _ w hz hE hd => ?_) ?_
    · have d4 := hd 4 (by decide) rfl rfl
      change vs 4 = _ at d4
      have d5 := hd 5 (by decide) rfl rfl
      change vs 5 = _ at d5
      refine And.intro rfl ?_
      simp only [Gives]
      go_simp
      exact ⟨Below.refl _ _, rfl⟩
    refine And.intro (fun _ w hz hE hd => ?_) ?_
    · have d11 := hd 11 (by decide) rfl rfl
      change vs 11 = _ at d11
      refine And.intro rfl ?_
      simp only [Gives]
      go_simp
      exact ⟨Below.refl _ _, rfl⟩
    refine And.intro (fun h => by cases h) ?_
    exact trivial
  case hp =>
    intro vs m x o hx ho w hw hd
    rcases m with _ | _ | m
    · obtain rfl := Option.some.inj hx
      obtain rfl := Option.some.inj ho
      have d9 := hd 9 (by decide) rfl rfl
      change vs 9 = _ at d9
      have d6 := hd 6 (by decide) rfl rfl
      change vs 6 = _ at d6
      simp only [List.take_zero, putsTo] at hw
      refine And.intro rfl ?_
      have C := HQ.out.kept hw
      have q0 : w.cell? ⟨bq2, r * 6 + 2, none⟩ = some (iv s.x2) := C.rgCell (j := 2) HS.out (by omega) rfl
      have f0 : w.frozen? ⟨bq2, r * 6 + 2, none⟩ = false := own_free C.o2
      simp only [Gives]
      go_simp
      exact rfl
    · obtain rfl := Option.some.inj hx
      obtain rfl := Option.some.inj ho
      have d12 := hd 12 (by decide) rfl rfl
      change vs 12 = _ at d12
      have d7 := hd 7 (by decide) rfl rfl
      change vs 7 = _ at d7
      simp only [List.take_succ_cons, List.take_zero, putsTo] at hw
      refine And.intro rfl ?_
      have C := T1.out.kept (hw.mono (by simp [World.setCell]))
      have q0 : w.cell? ⟨bq2, r * 6 + 3, none⟩ = some (iv s.y2) := C.rgCell (j := 3) (set_get HS.out) (by simp [setRg]; omega) rfl
      have f0 : w.frozen? ⟨bq2, r * 6 + 3, none⟩ = false := own_free C.o2
      simp only [Gives]
      go_simp
      exact rfl
    · simp at hx
  intro vs wt hw hd
  simp only [putsTo] at hw
  have d0 := hd 0 (by decide) rfl
  change vs 0 = _ at d0
  have d1 := hd 1 (by decide) rfl
  change vs 1 = _ at d1
  have d2 := hd 2 (by decide) rfl
  change vs 2 = _ at d2
  have d3 := hd 3 (by decide) rfl
  change vs 3 = _ at d3
  have d4 := hd 4 (by decide) rfl
  change vs 4 = _ at d4
  have d5 := hd 5 (by decide) rfl
  change vs 5 = _ at d5
  have d6 := hd 6 (by decide) rfl
  change vs 6 = _ at d6
  have d7 := hd 7 (by decide) rfl
  change vs 7 = _ at d7
  have d8 := hd 8 (by decide) rfl
  change vs 8 = _ at d8
  have d9 := hd 9 (by decide) rfl
  change vs 9 = _ at d9
  have d11 := hd 11 (by decide) rfl
  change vs 11 = _ at d11
  have d12 := hd 12 (by decide) rfl
  change vs 12 = _ at d12
  simp only [d0, d1, d2, d3, d4, d5, d6, d7, d8, d9, d11, d12, List.drop_succ_cons, List.drop_nil]
  clear hd d0 d1 d2 d3 d4 d5 d6 d7 d8 d9 d11 d12
  have Q4 := T2.out.kept (hw.mono (by simp [World.setCell]))
  rw [set_set] at Q4
  have hg4 : wp.grownBy ((wp.setCell ⟨bq2, r * 6 + 2, none⟩ (iv u)).setCell ⟨bq2, r * 6 + 3, none⟩ (iv v)) (some bq2) := (grownBy_set _ _ _ _).trans (grownBy_set _ _ _ _)
  have hg5 := hg4.trans ((grown_of_below (hw.mono (by simp [World.setCell]))).but _)
  have QB := Lib.hid (qbx.grown hg5 (fun e => n_qbx (Option.some.inj e)))
  have BW := Lib.hid (BW.out.grown hg5 (fun e => by have := Option.some.inj e; omega))
  have BX := Lib.hid (BX.out.grown hg5 (fun e => by have := Option.some.inj e; omega))
  have HB := Lib.hid (HB.out.grown hg5 HB.out.size (fun b e => by cases e; omega))
  have HQ := Lib.hid Q4
  clear Q4 hg4 hg5 qbx hw T1 T2 n_qbx
  go_upto_region 16 with fail
  have hlr : (setRg L r ⟨s.x1, s.y1, u, v, s.b, s.t⟩).rg.length = L.rg.length := by simp [setRg]
  have Hlr := Lib.hid hlr
  clear hlr
  have N9 := Box.new (w := wt) (t := 79) (cs := #[iv u, iv v, iv s.x2, iv s.y2, .int .i64 0, iv s.t]) rfl
  have HQ5 := Lib.hid (HQ.out.kept (up_alloc up0 (.cells #[iv u, iv v, iv s.x2, iv s.y2, .int .i64 0, iv s.t] 79)))
  have ho2 := HQ5.out.o2
  rw [Hlr.out] at ho2
  have HO2 := Lib.hid ho2
  have hbs : ∀ o, lo 3 ≤ (wt.alloc o).heap.size := fun o => by have := (HQ.out.o2.lt bq2 rfl); simp; omega
  have HQB := Lib.hid (QB.out.alloc (.cells #[iv u, iv v, iv s.x2, iv s.y2, .int .i64 0, iv s.t] 79))
  have HBX := Lib.hid (BX.out.alloc (.cells #[iv u, iv v, iv s.x2, iv s.y2, .int .i64 0, iv s.t] 79))
  have HBB := Lib.hid (up_alloc HB.out (.cells #[iv u, iv v, iv s.x2, iv s.y2, .int .i64 0, iv s.t] 79))
  have HN9 := Lib.hid N9
  have qb := QB.out
  have bw := BW.out
  have c6 := fun i => qb.cell i
  have c9 := fun i => bw.cell i
  clear N9 ho2
  go_upto_region 17 with (at_builtin; go_loud (refine wpList_append_own_at _ rfl _ _ 23 rfl (lo 3) 79 i2 (.agg #[iv 0, iv 0, iv 0, iv 0, iv 0, iv 0]) 6 48 Try.underlying23 hi2 hz20 hz21 hz22 rfl (by decide) _ _ _ rfl HO2.out ⟨wt.heap.size, 0, none⟩ 1 1 [iv u, iv v, iv s.x2, iv s.y2, iv 0, iv s.t] rfl rfl (box_newsM HN9.out) (by simp [Value.oneCell']) (by unfold maxLen; omega) (by omega) (hbs _) ?_; intro v' w2 hown' hgrow _ hat; obtain ⟨g', cap', rfl⟩ := ownsRow_succ hown'; have hbo := HQB.out.grown hgrow (box_not_own HQB.out (by decide) HO2.out); have hc1 := fun i => hbo.cell i; have hf1 := fun i => hbo.free i))
  clear c6 c9 hc1 hf1 qb bw
  have hgr : (wt.alloc (.cells #[iv u, iv v, iv s.x2, iv s.y2, .int .i64 0, iv s.t] 79)).grownBy w2 (Value.slice (some ⟨bq2, 0, none⟩) L.rg.length qp2).ownBlock := hgrow
  have Y7 : Cop 74 79 80 60 82 (lo 3) (divLd L r ⟨s.x1, s.y1, u, v, s.b, s.t⟩ ⟨u, v, s.x2, s.y2, 0, s.t⟩) (w2.setCell ⟨lo 5, 1, none⟩ (.slice (some ⟨g', 0, none⟩) (L.rg.length + 1) cap')) (.slice qa1 qm1 qp1) (.slice (some ⟨g', 0, none⟩) (L.rg.length + 1) cap') (.slice qa3 qm3 qp3) (.slice qa4 qm4 qp4) cq :=
    (HQ5.out.moreRg (x := ⟨u, v, s.x2, s.y2, 0, s.t⟩) hgr (by rw [Hlr.out]; simpa [Wl.cells] using hown') (by decide) (by decide) (by decide) (by decide)).set hbo
  have qb2 := hbo.put 1 (.slice (some ⟨g', 0, none⟩) (L.rg.length + 1) cap')
  simp only [List.setIfInBounds_toArray, List.set_cons_succ, List.set_cons_zero] at qb2
  have QB := Lib.hid qb2
  have BX := Lib.hid ((HBX.out.grown hgr (fun e => by have h : w.heap.size = bq2 := Option.some.inj e; omega)).far (p := ⟨lo 5, 1, none⟩) (by simp; omega) (.slice (some ⟨g', 0, none⟩) (L.rg.length + 1) cap'))
  have HB := Lib.hid (up_put (HBB.out.grown hgr HBB.out.size (fun b e => by have h : bq2 = b := Option.some.inj e; omega)) (p := ⟨lo 5, 1, none⟩) (by simp; omega) (.slice (some ⟨g', 0, none⟩) (L.rg.length + 1) cap'))
  have HT := Lib.hid (HT0.out.kept HB.out)
  have HY := Lib.hid (Y7.land (show L.st.length ≤ 1000 by omega) (by simp [divLd]; omega) (show L.cs.length ≤ 1000 by omega) (show L.sn.length ≤ 1000 by omega) hlen.out)
  clear Y7 qb2 hgr hgrow hown' hat hbo HQ5 HQB HBX HBB HN9 HO2 HQ BW
  generalize hwv : w2.setCell ⟨lo 5, 1, none⟩ (.slice (some ⟨g', 0, none⟩) (L.rg.length + 1) cap') = wv at QB BX HB HT HY ⊢
  clear hwv
  have BB := BX.out
  have cB := fun i => BB.cell i
  go_wp2_with fail
  clear cB BB
  refine (Land_any _ _ _ _ L _ _ HT.out).mono ?_
  rintro e ya ⟨a1, a2, a3, a4, ca, rfl, hl, hb⟩
  have Hl := Lib.hid hl
  clear hl
  have HB := Lib.hid (up_later HB.out hb)
  have HT := Lib.hid (HT.out.kept hb)
  have BX := Lib.hid (BX.out.kept hb)
  have HY := Lib.hid (HY.out.kept hb)
  have QB := Lib.hid (QB.out.kept hb)
  clear hb
  go_wp2_with fail
  have AA := Walls_any _ _ _ _ L _ i j 0 0 ya Hl.out
  rw [HWL.out] at AA
  refine AA.mono ?_
  rintro e yb ⟨r1', r2', rfl, hp, hq, hb⟩
  obtain ⟨_, Ap, pp, rfl, _, _⟩ := hp.form
  obtain ⟨_, Aq, pq, rfl, _, _⟩ := hq.form
  have HP := Lib.hid hp
  clear AA Hl hp hq
  have HB := Lib.hid (up_later HB.out hb)
  have HT := Lib.hid (HT.out.kept hb)
  have BX := Lib.hid (BX.out.kept hb)
  have HY := Lib.hid (HY.out.kept hb)
  have QB := Lib.hid (QB.out.kept hb)
  clear hb
  have BB := QB.out
  have cB := fun i => BB.cell i
  go_wp2_with fail
  clear cB BB
  refine (Land_any _ _ _ _ (divLd L r ⟨s.x1, s.y1, u, v, s.b, s.t⟩ ⟨u, v, s.x2, s.y2, 0, s.t⟩) _ _ HY.out).mono ?_
  rintro e ya ⟨a1, a2, a3, a4, ca, rfl, hl, hb⟩
  have Hl := Lib.hid hl
  clear hl
  have HB := Lib.hid (up_later HB.out hb)
  have HT := Lib.hid (HT.out.kept hb)
  have BX := Lib.hid (BX.out.kept hb)
  have HY := Lib.hid (HY.out.kept hb)
  have QB := Lib.hid (QB.out.kept hb)
  have HP := Lib.hid (HP.out.kept hb)
  clear hb
  go_wp2_with fail
  have AA := Walls_any _ _ _ _ (divLd L r ⟨s.x1, s.y1, u, v, s.b, s.t⟩ ⟨u, v, s.x2, s.y2, 0, s.t⟩) _ i j 0 0 ya Hl.out
  rw [HWY.out] at AA
  refine AA.mono ?_
  rintro e yb ⟨r3', r4', rfl, hp, hq, hb⟩
  obtain ⟨_, Bp, bp, rfl, _, _⟩ := hp.form
  obtain ⟨_, Bq, bq, rfl, _, _⟩ := hq.form
  have HV := Lib.hid hp
  clear AA Hl hp hq
  have HB := Lib.hid (up_later HB.out hb)
  have HT := Lib.hid (HT.out.kept hb)
  have BX := Lib.hid (BX.out.kept hb)
  have HY := Lib.hid (HY.out.kept hb)
  have QB := Lib.hid (QB.out.kept hb)
  have HP := Lib.hid (HP.out.kept hb)
  clear hb
  have BB := BX.out
  have cB := fun i => BB.cell i
  go_wp2_with fail
  clear cB BB
  refine (Land_any _ _ _ _ L _ _ HT.out).mono ?_
  rintro e ya ⟨a1, a2, a3, a4, ca, rfl, hl, hb⟩
  have Hl := Lib.hid hl
  clear hl
  have HB := Lib.hid (up_later HB.out hb)
  have BX := Lib.hid (BX.out.kept hb)
  have HY := Lib.hid (HY.out.kept hb)
  have QB := Lib.hid (QB.out.kept hb)
  have HP := Lib.hid (HP.out.kept hb)
  have HV := Lib.hid (HV.out.kept hb)
  clear hb
  go_wp2_with fail
  refine (Rise_any _ _ _ _ L _ i j ya Hl.out).mono ?_
  rintro e yb ⟨rfl, hb⟩
  clear Hl
  have HB := Lib.hid (up_later HB.out hb)
  have BX := Lib.hid (BX.out.kept hb)
  have HY := Lib.hid (HY.out.kept hb)
  have QB := Lib.hid (QB.out.kept hb)
  have HP := Lib.hid (HP.out.kept hb)
  have HV := Lib.hid (HV.out.kept hb)
  clear hb
  have BB := QB.out
  have cB := fun i => BB.cell i
  go_wp2_with fail
  clear cB BB
  refine (Land_any _ _ _ _ (divLd L r ⟨s.x1, s.y1, u, v, s.b, s.t⟩ ⟨u, v, s.x2, s.y2, 0, s.t⟩) _ _ HY.out).mono ?_
  rintro e ya ⟨a1, a2, a3, a4, ca, rfl, hl, hb⟩
  have Hl := Lib.hid hl
  clear hl
  have HB := Lib.hid (up_later HB.out hb)
  have BX := Lib.hid (BX.out.kept hb)
  have HP := Lib.hid (HP.out.kept hb)
  have HV := Lib.hid (HV.out.kept hb)
  clear hb
  go_wp2_with fail
  have AA := Rise_any _ _ _ _ (divLd L r ⟨s.x1, s.y1, u, v, s.b, s.t⟩ ⟨u, v, s.x2, s.y2, 0, s.t⟩) _ i j ya Hl.out
  rw [HRY.out] at AA
  refine AA.mono ?_
  rintro e yc ⟨rfl, hb⟩
  clear AA Hl HY QB
  have HB := Lib.hid (up_later HB.out hb)
  have BX := Lib.hid (BX.out.kept hb)
  have HP := Lib.hid (HP.out.kept hb)
  have HV := Lib.hid (HV.out.kept hb)
  clear hb
  go_wp2_with fail
  have hr1 := ints_row1 (w := yc.alloc (.cells #[iv r] 3)) (g := yc.heap.size) (a := r) (Box.new rfl)
  have hb := up_alloc (up0 (w := yc)) (.cells #[iv r] 3)
  have HB := Lib.hid (up_later HB.out hb)
  have BX := Lib.hid (BX.out.kept hb)
  have HP := Lib.hid (HP.out.kept hb)
  have HV := Lib.hid (HV.out.kept hb)
  clear hb
  refine (within_any _ _ _ _ _ hr1 HP.out).mono ?_
  rintro e yd ⟨rfl, hb⟩
  rw [HW1.out]
  clear hr1 HP
  have HB := Lib.hid (up_later HB.out hb)
  have BX := Lib.hid (BX.out.kept hb)
  have HV := Lib.hid (HV.out.kept hb)
  clear hb
  go_wp2_with fail
  have hr1 := ints_row1 (w := yd.alloc (.cells #[iv r] 3)) (g := yd.heap.size) (a := r) (Box.new rfl)
  have hb := up_alloc (up0 (w := yd)) (.cells #[iv r] 3)
  have HB := Lib.hid (up_later HB.out hb)
  have BX := Lib.hid (BX.out.kept hb)
  have HV := Lib.hid (HV.out.kept hb)
  clear hb
  refine (within_any _ _ _ _ _ hr1 HV.out).mono ?_
  rintro e ye ⟨rfl, hb⟩
  rw [HW2.out]
  clear hr1
  have HB := Lib.hid (up_later HB.out hb)
  have BX := Lib.hid (BX.out.kept hb)
  have HV := Lib.hid (HV.out.kept hb)
  clear hb
  clear HW1 HW2
  cases b1 with
  | true =>
    rw [Bool.true_or]
    go_wp2_with fail
    refine (awake_any _).mono ?_
    rintro e y9 ⟨rfl, hb⟩
    go_wp2_with fail
    go_ret
    exact ⟨by simp [go_sem], up_later HB.out hb⟩
  | false =>
    rw [Bool.false_or]
    have BB := BX.out
    have cB := fun i => BB.cell i
    go_wp2_with fail
    clear cB BB
    have hr1 := ints_row1 (w := ye.alloc (.cells #[iv L.rg.length] 3)) (g := ye.heap.size) (a := L.rg.length) (Box.new rfl)
    have hb := up_alloc (up0 (w := ye)) (.cells #[iv L.rg.length] 3)
    have HB := Lib.hid (up_later HB.out hb)
    have HV := Lib.hid (HV.out.kept hb)
    clear hb
    refine (within_any _ _ _ _ _ hr1 HV.out).mono ?_
    rintro e yf ⟨rfl, hb⟩
    rw [HW3.out]
    clear hr1 HV HW3
    have HB := Lib.hid (up_later HB.out hb)
    clear hb
    cases c1 with
    | true =>
      go_wp2_with fail
      refine (awake_any _).mono ?_
      rintro e y9 ⟨rfl, hb⟩
      go_wp2_with fail
      go_ret
      exact ⟨by simp [go_sem], up_later HB.out hb⟩
    | false =>
      go_wp2_with fail
      refine (awake_any _).mono ?_
      rintro e y9 ⟨rfl, hb⟩
      go_wp2_with fail
      go_ret
      exact ⟨by simp [go_sem], up_later HB.out hb⟩

end Go.Proofs.Ytojbdmdjepgpjaa

namespace Go.Proofs.Ytojbdmdjepgpjaa
open Go.ChangeShapes Go.WideShapes Go.ChangeAt Go.RowKit

set_option maxRecDepth 100000 in
theorem hillDivided_lifted (os : Os) (started : os.Started) (H : Type) (enc : TypeId × Value → H) :
    ReturnsInHanded {} Try.checked os 13 .any (Rows.hillDividedSpec.pre6 enc Try.prog Try.f13 Rows.hillDividedRow.domain false) (Rows.hillDividedSpec.post enc Try.prog Try.f13 false true false false) := by
  refine returnsInHanded_of_change (C := Try.checked) own_knob started (by kernel_rfl) Try.func13
    (ChangeSpec.witness6 (enc := enc) (C := Try.checked) false ⟨#[], #[.agg #[.slice Option.none 0 0, .slice Option.none 0 0, .slice Option.none 0 0, .slice Option.none 0 0], .int .u8 0, .int .u8 0, .int .u8 0], []⟩ 8 (by kernel_rfl) (by kernel_rfl) (by kernel_rfl) (by kernel_rfl)) ?_
  intro W base args ds gs before hval0 hW hcnd _
  have hval : ∀ (j : Nat) t v, Try.f13.params[j]? = some t → args[j]? = some v → Value.okWide Try.prog W .any base t v := hval0
  have hW' := hW
  obtain ⟨p, q, hA0, hV, rfl, hfz, hnd⟩ := hW
  have hA : DataW.TrodAll enc Try.prog W 0 (fun _ => true) true Try.f13.params.toList args.toList ds p := hA0
  rw [Try.params13] at hA hval
  have hlt : ∀ x ∈ p, x.block < W.heap.size := fun x hx => hW'.lt x (List.mem_append_left _ hx)
  have hAk := hA
  obtain ⟨v0, vs0, d0, ds0, p0, q0, hargs, rfl, rfl, h0, r0⟩ := trodAll_cons hA
  obtain ⟨v1, vs1, d1, ds1, p1, q1, rfl, rfl, rfl, h1, r1⟩ := trodAll_cons r0
  obtain ⟨v2, vs2, d2, ds2, p2, q2, rfl, rfl, rfl, h2, r2⟩ := trodAll_cons r1
  obtain ⟨v3, vs3, d3, ds3, p3, q3, rfl, rfl, rfl, h3, r3⟩ := trodAll_cons r2
  obtain ⟨rfl, rfl, rfl⟩ := trodAll_nil r3
  obtain rfl : args = #[v0, v1, v2, v3] := by cases args; simp_all
  obtain ⟨rfl, rfl⟩ := trodVars_none hV
  obtain ⟨a1, rfl, rfl, rfl, w1⟩ := open_int Try.underlying5 (hval 1 5 v1 rfl rfl) h1
  obtain ⟨a2, rfl, rfl, rfl, w2⟩ := open_int Try.underlying5 (hval 2 5 v2 rfl rfl) h2
  obtain ⟨a3, rfl, rfl, rfl, w3⟩ := open_int Try.underlying5 (hval 3 5 v3 rfl rfl) h3
  obtain ⟨cs, rfl, _⟩ := okWide_struct und27 (hval 0 27 v0 rfl rfl)
  obtain ⟨fuel, h0⟩ := h0
  obtain ⟨u1, u2, u3, u4, L, c, hcs, hL⟩ := open_land h0
  obtain rfl : cs = #[u1, u2, u3, u4] := by
    have h : cs.toList = [u1, u2, u3, u4] := hcs
    cases cs
    simp at h
    rw [h]
  clear hA0 hval0 hval hA
  simp only [List.append_nil] at hW'
  simp only [List.append_nil] at hAk hlt
  refine (divided_law u1 u2 u3 u4 L c a1 a2 a3 W hL (bounds_u8 w1) (bounds_u8 w2) (bounds_u8 w3)).mono fun e W' ⟨he, hg⟩ => ?_
  subst he
  refine ⟨_, rfl, post_below (pv := []) hW' hg (fun _ _ _ => (trodAll_cons_mk (shut_bool Try.underlying4 _) trodAll_mk0)) (fun sp hsp => ?_) (fun _ _ => rfl) (List.append_nil _).symm
    (ok_one (by kernel_rfl) rfl (okWide_bool_mk Try.underlying4 _))⟩
  rw [Try.params13]
  refine args_stay laid_out hg (fun t ht => ?_) hAk hlt sp (fun x hx => hsp x (by first | exact hx | simpa using hx))
  simp only [List.mem_cons, List.not_mem_nil, or_false] at ht
  rcases ht with rfl | rfl | rfl | rfl
  · exact rec27
  · exact rec5
  · exact rec5
  · exact rec5

theorem hillDivided_over : Rows.hillDividedRow.holds Try.pinned (OpenSpec.ofChange Rows.hillDividedSpec) :=
  OpenClaim.holds_of_wide 13 Try.f13 rfl rfl rfl rfl rfl rfl rfl ⟨rfl, rfl, rfl, rfl, rfl⟩ rfl rfl rfl rfl rfl (by kernel_rfl) Try.func13 (by kernel_rfl)
    (of_decide_eq_true (by kernel_rfl)) (by unfold Func.isWrapper; first | (rw [if_pos (by decide +kernel)]; kernel_rfl) | (rw [if_neg (by decide +kernel)]; exact ⟨rfl, rfl⟩))
    (fun os started H enc _ => hillDivided_lifted os started H enc)

theorem HillDivided_holds : Rows.HillDividedSaid := hillDivided_over

end Go.Proofs.Ytojbdmdjepgpjaa

