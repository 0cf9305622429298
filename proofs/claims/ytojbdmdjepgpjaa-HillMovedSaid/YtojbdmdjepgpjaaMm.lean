/-
  HillMoved holds: if all places are moved by the same numbers, or X and Y are exchanged everywhere, all results are the same. No condition.
-/
import Derived.Test.YtojbdmdjepgpjaaVc
import Derived.Test.YtojbdmdjepgpjaaVn
import Derived.Test.YtojbdmdjepgpjaaMe
import Derived.Test.YtojbdmdjepgpjaaVr
import Derived.Test.YtojbdmdjepgpjaaLt
import Derived.Test.YtojbdmdjepgpjaaAp
import Derived.Test.YtojbdmdjepgpjaaSe
import Derived.Test.YtojbdmdjepgpjaaUp
namespace Go.Proofs.Ytojbdmdjepgpjaa
open Go.RowKit

/-- What is known of a value whose blocks are those from lo to hi, and lasts while all that lies goes on lying. -/
structure FactS where
  p : Nat → Nat → Value → World → Prop
  st : ∀ lo hi v w w', p lo hi v w → Below w.heap.size w w' → p lo hi v w'
def FactS.eq (c : Value) : FactS := ⟨fun _ _ v _ => v = c, fun _ _ _ _ _ h _ => h⟩
def FactS.any : FactS := ⟨fun _ _ _ _ => True, fun _ _ _ _ _ _ _ => trivial⟩
def FactS.box (t : TypeId) (cs : Array Value) : FactS := ⟨fun lo hi v w => v = .pointer (some ⟨lo, 0, none⟩) ∧ Box w lo t cs ∧ lo < hi, fun _ _ _ _ _ h hb => ⟨h.1, h.2.1.kept hb, h.2.2⟩⟩

structure SpanInv (Fs : List FactS) (n : Nat) (w0 : World) (L : Nat → Bool) (vs : Nat → Value) (lo hi : Nat → Nat) (w : World) : Prop where
  below : Below w0.heap.size w0 w
  each : ∀ d, d < n → L d = true → (Fs.getD d FactS.any).p (lo d) (hi d) (vs d) w
  apart : ∀ d e, d < n → e < n → d ≠ e → L d = true → L e = true → hi d ≤ lo e ∨ hi e ≤ lo d
  span : ∀ d, d < n → L d = true → w0.heap.size ≤ lo d ∧ hi d ≤ w.heap.size

/-- **A region that draws its order, whose operations make blocks of their own.** -/
theorem wp_region_span {P : Program} {id : Nat} {Q : Exit → Act → World → Prop} {a0 : Act} {w0 : World} {l : List Oper} (n : Nat) (Fs : List FactS) (A : (Nat → Value) → Act)
    (hm : P.follows .mixedOrders = true) (hB : factsB .any l.toArray n = true) (hA : ∀ vs, putAll (fun _ => true) vs 0 (l.take n) a0 = A vs)
    (hstep : ∀ (vs : Nat → Value), Each (fun i o => ∀ w : World, Below w0.heap.size w0 w → (∀ d, d < n → leansOn l.toArray o d = true → ∃ lo hi, (Fs.getD d FactS.any).p lo hi (vs d) w) →
      if Region.wanted o (yielded l.toArray (A vs).tmps) = true then Gives P o (A vs) w (fun v w' => Below w.heap.size w w' ∧ (Fs.getD i FactS.any).p w.heap.size w'.heap.size v w') else (Fs.getD i FactS.any).p w.heap.size w.heap.size undef w) 0 (l.take n))
    (htail : ∀ (vs : Nat → Value) (lo hi : Nat → Nat) (w : World), SpanInv Fs n w0 (fun _ => true) vs lo hi w → wpList P l.toArray Q (l.drop n) (A vs) w) :
    (Code.region id l.toArray true).wp P Q a0 w0 := by
  refine wp_region_any hm ?_
  have hn : n ≤ l.toArray.size := by
    simp only [factsB, Bool.and_eq_true, decide_eq_true_eq] at hB
    exact hB.1.1.1.2
  have inv0 : HeadInv .any l.toArray n (Array.replicate l.toArray.size false) :=
    ⟨by simp, fun j oj _ hl => (by rw [getD_replicate_false] at hl; cases hl), fun t _ ht => getD_in (by simpa using ht) (getD_replicate_false _ _)⟩
  have hun : unl n (Array.replicate l.toArray.size false) = n := by
    unfold unl
    rw [List.countP_eq_length.2]
    · simp
    · intro i _; rw [getD_replicate_false]; rfl
  have hput : putAll (fun i => (Array.replicate l.toArray.size false).getD i false) (fun _ => undef) 0 (l.take n) a0 = a0 := by
    have hg : ∀ (l' : List Oper) (k : Nat) (a : Act), putAll (fun i => (Array.replicate l.toArray.size false).getD i false) (fun _ => undef) k l' a = a := by
      intro l'
      induction l' with
      | nil => intro k a; rfl
      | cons o r ih => intro k a; unfold putAll; rw [getD_replicate_false, if_neg (by simp)]; exact ih _ _
    exact hg _ _ _
  have h0 : ∃ lo hi, SpanInv Fs n w0 (fun i => (Array.replicate l.toArray.size false).getD i false) (fun _ => undef) lo hi w0.drew :=
    ⟨fun _ => 0, fun _ => 0, (Below.refl _ _).drew, (fun d _ h => by simp only [getD_replicate_false] at h; cases h), (fun d e _ _ _ h => by simp only [getD_replicate_false] at h; cases h), (fun d _ h => by simp only [getD_replicate_false] at h; cases h)⟩
  have := wpAny_inv (P := P) (md := .any) (ops := l.toArray) (Q := Q) (n := n) (a0 := a0) hB (fun L vs w => ∃ lo hi, SpanInv Fs n w0 L vs lo hi w) (fun i o hi' ho L vs w hLi hdep hI => ?_) (fun L vs w hall hI => ?_) n (Array.replicate l.toArray.size false) (fun _ => undef) w0.drew inv0 hun h0
  · rw [hput, show n + (l.toArray.size - n) = l.toArray.size by omega] at this
    exact this
  · have hAA : putAll (fun _ => true) vs 0 (l.toArray.toList.take n) a0 = A vs := hA vs
    rw [hAA]
    obtain ⟨lo, hi, hI⟩ := hI
    have hE := Each.get (hstep vs) i o (by rw [List.getElem?_take, if_pos hi']; simpa using ho)
    rw [Nat.zero_add] at hE
    have h1 := hE w hI.below fun d hd hl => ⟨lo d, hi d, hI.each d hd (hdep d hd hl)⟩
    have hset : ∀ {j : Nat}, j ≠ i → (if j = i then true else L j) = L j := fun h => if_neg h
    have key : ∀ v w', Below w.heap.size w w' → (Fs.getD i FactS.any).p w.heap.size w'.heap.size v w' → ∃ lo hi, SpanInv Fs n w0 (fun j => if j = i then true else L j) (fun j => if j = i then v else vs j) lo hi w' := by
      intro v w' hb hf
      refine ⟨fun j => if j = i then w.heap.size else lo j, fun j => if j = i then w'.heap.size else hi j, up_later hI.below hb, fun d hd hl => ?_, fun d e hd he hde hld hle => ?_, fun d hd hl => ?_⟩
      · by_cases hdi : d = i
        · subst hdi
          simp only [if_true]
          exact hf
        · rw [hset hdi] at hl
          rw [if_neg hdi, if_neg hdi, if_neg hdi]
          exact (Fs.getD d FactS.any).st _ _ _ _ _ (hI.each d hd hl) hb
      · by_cases hdi : d = i
        · by_cases hei : e = i
          · exact absurd (hdi.trans hei.symm) hde
          · rw [hset hei] at hle
            have h2 := (hI.span e he hle).2
            rw [if_pos hdi, if_pos hdi, if_neg hei, if_neg hei]
            exact .inr h2
        · rw [hset hdi] at hld
          by_cases hei : e = i
          · have h2 := (hI.span d hd hld).2
            rw [if_pos hei, if_pos hei, if_neg hdi, if_neg hdi]
            exact .inl h2
          · rw [hset hei] at hle
            rw [if_neg hdi, if_neg hdi, if_neg hei, if_neg hei]
            exact hI.apart d e hd he hde hld hle
      · by_cases hdi : d = i
        · rw [if_pos hdi, if_pos hdi]
          exact ⟨hI.below.size, Nat.le_refl _⟩
        · rw [hset hdi] at hl
          rw [if_neg hdi, if_neg hdi]
          have h2 := hI.span d hd hl
          exact ⟨h2.1, Nat.le_trans h2.2 hb.size⟩
    split
    · rename_i hw
      rw [if_pos hw] at h1
      exact h1.mono fun v w' ⟨hb, hf⟩ => key v w' hb hf
    · rename_i hw
      rw [if_neg hw] at h1
      exact key undef w (Below.refl _ _) h1
  · have hAA : putAll (fun _ => true) vs 0 (l.toArray.toList.take n) a0 = A vs := hA vs
    rw [hAA]
    obtain ⟨lo, hi, hI⟩ := hI
    exact htail vs lo hi w ⟨hI.below, fun d hd _ => hI.each d hd (hall d hd), fun d e hd he hde _ _ => hI.apart d e hd he hde (hall d hd) (hall e he), fun d hd _ => hI.span d hd (hall d hd)⟩

/-- The slices of a land. -/
abbrev parts (u1 u2 u3 u4 : Value) (c : List (Value × List Cl)) : List Value := u1 :: u2 :: u3 :: u4 :: c.map (·.1)
/-- None of the blocks is one of those from lo to hi. -/
def Off (lo hi : Nat) (l : List Value) : Prop := ∀ v ∈ l, ∀ b, v.ownBlock = some b → b < lo ∨ hi ≤ b
section
variable {e1 e2 e3 e4 e5 n0 lo hi : Nat} {L : Ld} {w w2 : World} {u1 u2 u3 u4 u' : Value} {c : List (Value × List Cl)} {row : Option Nat}
theorem Cop.lts (h : Cop e1 e2 e3 e4 e5 n0 L w u1 u2 u3 u4 c) : ∀ v ∈ parts u1 u2 u3 u4 c, ∀ b, v.ownBlock = some b → n0 ≤ b ∧ b < w.heap.size := by
  intro v hv b hb
  simp only [parts, List.mem_cons, List.mem_map] at hv
  rcases hv with rfl | rfl | rfl | rfl | ⟨x, hx, rfl⟩
  · exact h.o1.lt b hb
  · exact h.o2.lt b hb
  · exact h.o3.lt b hb
  · exact h.o4.lt b hb
  · exact (h.each x hx).lt b hb
theorem Cop.but (h : Cop e1 e2 e3 e4 e5 n0 L w u1 u2 u3 u4 c) (hg : w.grownBy w2 row) (hr : ∀ b, row = some b → lo ≤ b ∧ b < hi) (ho : Off lo hi (parts u1 u2 u3 u4 c)) : Cop e1 e2 e3 e4 e5 n0 L w2 u1 u2 u3 u4 c := by
  have key : ∀ v ∈ parts u1 u2 u3 u4 c, v.ownBlock = none ∨ v.ownBlock ≠ row := by
    intro v hv
    cases hb : v.ownBlock with
    | none => exact .inl rfl
    | some b =>
      refine .inr fun e => ?_
      have h1 := ho v hv b hb
      have h2 := hr b e.symm
      omega
  refine ⟨h.o1.kept hg (key _ (by simp [parts])), h.o2.kept hg (key _ (by simp [parts])), h.o3.kept hg (key _ (by simp [parts])), h.o4.kept hg (key _ (by simp [parts])), h.ec, fun x hx => (h.each x hx).kept hg (key _ ?_), h.apart⟩
  simp only [parts, List.mem_cons, List.mem_map]
  exact .inr (.inr (.inr (.inr ⟨x, hx, rfl⟩)))
theorem off_of {lo' hi' : Nat} {l : List Value} (hin : ∀ v ∈ l, ∀ b, v.ownBlock = some b → lo' ≤ b ∧ b < hi') (ha : hi' ≤ lo ∨ hi ≤ lo') : Off lo hi l := fun v hv b hb => by
  have := hin v hv b hb
  omega
theorem Off.second {l : List (Value × List Cl)} (h : Off lo hi (parts u1 u2 u3 u4 l)) (hn : ∀ b, u'.ownBlock = some b → b < lo ∨ hi ≤ b) : Off lo hi (parts u1 u' u3 u4 l) := by
  intro v hv b hb
  simp only [parts, List.mem_cons] at hv
  rcases hv with rfl | rfl | hv
  · exact h _ (by simp [parts]) b hb
  · exact hn b hb
  · exact h v (by simp only [parts, List.mem_cons]; exact .inr (.inr hv)) b hb
theorem Off.case {l : List (Value × List Cl)} {k : Nat} {q : List Cl} (h : Off lo hi (parts u1 u2 u3 u4 l)) (hn : ∀ b, u'.ownBlock = some b → b < lo ∨ hi ≤ b) : Off lo hi (parts u1 u2 u3 u4 (l.set k (u', q))) := by
  intro v hv b hb
  simp only [parts, List.mem_cons, List.mem_map] at hv
  rcases hv with rfl | rfl | rfl | rfl | ⟨x, hx, rfl⟩
  · exact h _ (by simp [parts]) b hb
  · exact h _ (by simp [parts]) b hb
  · exact h _ (by simp [parts]) b hb
  · exact h _ (by simp [parts]) b hb
  · rcases List.mem_or_eq_of_mem_set hx with hm | rfl
    · exact h x.1 (by simp only [parts, List.mem_cons, List.mem_map]; exact .inr (.inr (.inr (.inr ⟨x, hm, rfl⟩)))) b hb
    · exact hn b hb
end
def FactS.cop (L : Ld) : FactS := ⟨fun lo hi v w => ∃ u1 u2 u3 u4 c, v = .agg #[u1, u2, u3, u4] ∧ Cop 74 79 80 60 82 lo L w u1 u2 u3 u4 c ∧ (∀ x ∈ parts u1 u2 u3 u4 c, ∀ b, x.ownBlock = some b → lo ≤ b ∧ b < hi) ∧ lo ≤ hi,
  fun _ _ _ _ _ ⟨u1, u2, u3, u4, c, h, h1, h2⟩ hb => ⟨u1, u2, u3, u4, c, h, h1.kept hb, h2⟩⟩

end Go.Proofs.Ytojbdmdjepgpjaa

namespace Go.Proofs.Ytojbdmdjepgpjaa
open Go.RowKit

/-- All answers about two stations are the same in both lands, and there is no error. -/
structure Alike (L M : Ld) (i j : Nat) : Prop where
  always : ∃ l, alwaysE L i j = (l, 0) ∧ alwaysE M i j = (l, 0)
  rise : riseI M i j = riseI L i j
  walls : ∀ k t : Nat, k < L.cs.length → t < L.sn.length → ∃ p q, wallsE L i j k t = (p, q, 0) ∧ wallsE M i j k t = (p, q, 0)
  why : ∀ k t : Nat, k < L.cs.length → t < L.sn.length → ∃ r n, whyE L i j k t = (r, n, 0) ∧ whyE M i j k t = (r, n, 0)

set_option maxRecDepth 100000 in
set_option maxHeartbeats 4000000 in
theorem alike_any (v1 v2 v3 v4 u1 u2 u3 u4 : Value) (L M : Ld) (c d : List (Value × List Cl)) (i j : Nat) (w : World) (hL : LandAt w v1 v2 v3 v4 L c) (hM : LandAt w u1 u2 u3 u4 M d) (hA : Alike L M i j) :
    Calls Try.prog 42 #[.agg #[v1, v2, v3, v4], .agg #[u1, u2, u3, u4], .int .i64 i, .int .i64 j] w fun e w' => e = .returned (.bool true) ∧ Below w.heap.size w w' := by
  have HL := Lib.hid hL
  have HM := Lib.hid hM
  have HA := Lib.hid hA
  obtain ⟨_, A1, cap1, rfl, _, _⟩ := hL.st.form
  obtain ⟨_, A2, cap2, rfl, _, _⟩ := hL.rg.form
  obtain ⟨_, A3, cap3, rfl, _, _⟩ := hL.cs.form
  obtain ⟨_, A4, cap4, rfl, _, _⟩ := hL.sn.form
  obtain ⟨_, E1, dap1, rfl, _, _⟩ := hM.st.form
  obtain ⟨_, E2, dap2, rfl, _, _⟩ := hM.rg.form
  obtain ⟨_, E3, dap3, rfl, _, _⟩ := hM.cs.form
  obtain ⟨_, E4, dap4, rfl, _, _⟩ := hM.sn.form
  have Hcl := Lib.hid (cs_len hL.eq)
  obtain ⟨al, ha1, ha2⟩ := hA.always
  have HA1 := Lib.hid ha1
  have HA2 := Lib.hid ha2
  obtain ⟨⟨r, g⟩, hr1⟩ : ∃ q, riseI L i j = q := ⟨_, rfl⟩
  have HR1 := Lib.hid hr1
  have HR2 := Lib.hid (hA.rise.trans hr1)
  have rr : (r != r) = false := by simp
  have gg : (g != g) = false := by simp
  clear hL hM hA ha1 ha2 hr1
  go_enter Try.func42, Try.ntmps42
  go_wp2_with fail
  have BX := Lib.hid ((Box.new (w := w) (t := 27) (cs := #[.slice A1 L.st.length cap1, .slice A2 L.rg.length cap2, .slice A3 c.length cap3, .slice A4 L.sn.length cap4]) rfl).alloc (.cells #[.slice E1 M.st.length dap1, .slice E2 M.rg.length dap2, .slice E3 d.length dap3, .slice E4 M.sn.length dap4] 27))
  have BM := Lib.hid (Box.new (w := w.alloc (.cells #[.slice A1 L.st.length cap1, .slice A2 L.rg.length cap2, .slice A3 c.length cap3, .slice A4 L.sn.length cap4] 27)) (g := w.heap.size + 1) (t := 27) (cs := #[.slice E1 M.st.length dap1, .slice E2 M.rg.length dap2, .slice E3 d.length dap3, .slice E4 M.sn.length dap4]) (by simp))
  have HB := Lib.hid (up_alloc (up_alloc (up0 (w := w)) (.cells #[.slice A1 L.st.length cap1, .slice A2 L.rg.length cap2, .slice A3 c.length cap3, .slice A4 L.sn.length cap4] 27)) (.cells #[.slice E1 M.st.length dap1, .slice E2 M.rg.length dap2, .slice E3 d.length dap3, .slice E4 M.sn.length dap4] 27))
  have HL := Lib.hid (HL.out.kept HB.out)
  have HM := Lib.hid (HM.out.kept HB.out)
  refine (Land_any _ _ _ _ _ _ _ HL.out).mono ?_
  rintro e ya ⟨a1, a2, a3, a4, ca, rfl, hl, hb⟩
  have Hl := Lib.hid hl
  clear hl
  have HB := Lib.hid (up_later HB.out hb)
  have HL := Lib.hid (HL.out.kept hb)
  have HM := Lib.hid (HM.out.kept hb)
  have BX := Lib.hid (BX.out.kept hb)
  have BM := Lib.hid (BM.out.kept hb)
  clear hb
  go_wp2_with fail
  have AA := Always_any _ _ _ _ L _ i j ya Hl.out
  rw [HA1.out] at AA
  refine AA.mono ?_
  rintro e yb ⟨u, rfl, hr, hb⟩
  obtain ⟨_, Aa, pa, rfl, _, _⟩ := hr.form
  have HP := Lib.hid hr
  clear AA Hl hr
  have HB := Lib.hid (up_later HB.out hb)
  have HL := Lib.hid (HL.out.kept hb)
  have HM := Lib.hid (HM.out.kept hb)
  have BX := Lib.hid (BX.out.kept hb)
  have BM := Lib.hid (BM.out.kept hb)
  clear hb
  have BB := BM.out
  have cB := fun i => BB.cell i
  go_wp2_with fail
  clear cB BB
  refine (Land_any _ _ _ _ _ _ _ HM.out).mono ?_
  rintro e ya ⟨a1, a2, a3, a4, ca, rfl, hl, hb⟩
  have Hl := Lib.hid hl
  clear hl
  have HB := Lib.hid (up_later HB.out hb)
  have HL := Lib.hid (HL.out.kept hb)
  have HM := Lib.hid (HM.out.kept hb)
  have BX := Lib.hid (BX.out.kept hb)
  have BM := Lib.hid (BM.out.kept hb)
  have HP := Lib.hid (HP.out.kept hb)
  clear hb
  go_wp2_with fail
  have AA := Always_any _ _ _ _ M _ i j ya Hl.out
  rw [HA2.out] at AA
  refine AA.mono ?_
  rintro e yb ⟨u, rfl, hr, hb⟩
  obtain ⟨_, Ab, pb, rfl, _, _⟩ := hr.form
  have HQ := Lib.hid hr
  clear AA Hl hr
  have HB := Lib.hid (up_later HB.out hb)
  have HL := Lib.hid (HL.out.kept hb)
  have HM := Lib.hid (HM.out.kept hb)
  have BX := Lib.hid (BX.out.kept hb)
  have BM := Lib.hid (BM.out.kept hb)
  have HP := Lib.hid (HP.out.kept hb)
  clear hb
  have BB := BX.out
  have cB := fun i => BB.cell i
  go_wp2_with fail
  clear cB BB
  refine (Land_any _ _ _ _ _ _ _ HL.out).mono ?_
  rintro e ya ⟨a1, a2, a3, a4, ca, rfl, hl, hb⟩
  have Hl := Lib.hid hl
  clear hl
  have HB := Lib.hid (up_later HB.out hb)
  have HL := Lib.hid (HL.out.kept hb)
  have HM := Lib.hid (HM.out.kept hb)
  have BX := Lib.hid (BX.out.kept hb)
  have BM := Lib.hid (BM.out.kept hb)
  have HP := Lib.hid (HP.out.kept hb)
  have HQ := Lib.hid (HQ.out.kept hb)
  clear hb
  go_wp2_with fail
  have AA := Rise_any _ _ _ _ L _ i j ya Hl.out
  rw [HR1.out] at AA
  refine AA.mono ?_
  rintro e yb ⟨rfl, hb⟩
  clear AA Hl
  have HB := Lib.hid (up_later HB.out hb)
  have HL := Lib.hid (HL.out.kept hb)
  have HM := Lib.hid (HM.out.kept hb)
  have BX := Lib.hid (BX.out.kept hb)
  have BM := Lib.hid (BM.out.kept hb)
  have HP := Lib.hid (HP.out.kept hb)
  have HQ := Lib.hid (HQ.out.kept hb)
  clear hb
  have BB := BM.out
  have cB := fun i => BB.cell i
  go_wp2_with fail
  clear cB BB
  refine (Land_any _ _ _ _ _ _ _ HM.out).mono ?_
  rintro e ya ⟨a1, a2, a3, a4, ca, rfl, hl, hb⟩
  have Hl := Lib.hid hl
  clear hl
  have HB := Lib.hid (up_later HB.out hb)
  have HL := Lib.hid (HL.out.kept hb)
  have HM := Lib.hid (HM.out.kept hb)
  have BX := Lib.hid (BX.out.kept hb)
  have BM := Lib.hid (BM.out.kept hb)
  have HP := Lib.hid (HP.out.kept hb)
  have HQ := Lib.hid (HQ.out.kept hb)
  clear hb
  go_wp2_with fail
  have AA := Rise_any _ _ _ _ M _ i j ya Hl.out
  rw [HR2.out] at AA
  refine AA.mono ?_
  rintro e yb ⟨rfl, hb⟩
  clear AA Hl
  have HB := Lib.hid (up_later HB.out hb)
  have HL := Lib.hid (HL.out.kept hb)
  have HM := Lib.hid (HM.out.kept hb)
  have BX := Lib.hid (BX.out.kept hb)
  have BM := Lib.hid (BM.out.kept hb)
  have HP := Lib.hid (HP.out.kept hb)
  have HQ := Lib.hid (HQ.out.kept hb)
  clear hb
  have tt := Lib.hid (beq_self_eq_true al)
  go_wp2_with fail
  refine (ints_any _ _ _ _ _ HP.out HQ.out).mono ?_
  rintro e yc ⟨rfl, hb⟩
  rw [tt.out]
  clear HP HQ tt
  have HB := Lib.hid (up_later HB.out hb)
  have HL := Lib.hid (HL.out.kept hb)
  have HM := Lib.hid (HM.out.kept hb)
  have BX := Lib.hid (BX.out.kept hb)
  have BM := Lib.hid (BM.out.kept hb)
  clear hb
  go_wp2_with fail
  go_loopw [17] (fun q wr => ∃ m : Nat, m ≤ c.length ∧ q = .int .i64 m ∧ Hid (Below w.heap.size w wr) ∧ Hid (LandAt wr (.slice A1 L.st.length cap1) (.slice A2 L.rg.length cap2) (.slice A3 c.length cap3) (.slice A4 L.sn.length cap4) L c) ∧ Hid (LandAt wr (.slice E1 M.st.length dap1) (.slice E2 M.rg.length dap2) (.slice E3 d.length dap3) (.slice E4 M.sn.length dap4) M d) ∧ Hid (Box wr w.heap.size 27 #[.slice A1 L.st.length cap1, .slice A2 L.rg.length cap2, .slice A3 c.length cap3, .slice A4 L.sn.length cap4]) ∧ Hid (Box wr (w.heap.size + 1) 27 #[.slice E1 M.st.length dap1, .slice E2 M.rg.length dap2, .slice E3 d.length dap3, .slice E4 M.sn.length dap4])) (fun q _ => c.length - (intOf q).toNat)
  case atStart => exact ⟨0, by omega, rfl, HB.out, HL.out, HM.out, BX.out, BM.out⟩
  case round =>
    clear HB HL HM BX BM
    obtain ⟨k, hk, rfl, HB, HL, HM, BX, BM⟩ := hrel
    have k0 : (0 : Int) ≤ (k : Int) := by omega
    by_cases hlt : k < c.length
    · have k1 : (k : Int) < (c.length : Int) := by omega
      have hkc : k < L.cs.length := by have := Hcl.out; omega
      have Hkc := Lib.hid hkc
      clear hkc
      have BB := BX.out
      have cB := fun i => BB.cell i
      go_wp2_with fail
      clear cB BB
      go_loopw [18] (fun q wi => ∃ m : Nat, m ≤ L.sn.length ∧ q = .int .i64 m ∧ Hid (Below w.heap.size w wi) ∧ Hid (LandAt wi (.slice A1 L.st.length cap1) (.slice A2 L.rg.length cap2) (.slice A3 c.length cap3) (.slice A4 L.sn.length cap4) L c) ∧ Hid (LandAt wi (.slice E1 M.st.length dap1) (.slice E2 M.rg.length dap2) (.slice E3 d.length dap3) (.slice E4 M.sn.length dap4) M d) ∧ Hid (Box wi w.heap.size 27 #[.slice A1 L.st.length cap1, .slice A2 L.rg.length cap2, .slice A3 c.length cap3, .slice A4 L.sn.length cap4]) ∧ Hid (Box wi (w.heap.size + 1) 27 #[.slice E1 M.st.length dap1, .slice E2 M.rg.length dap2, .slice E3 d.length dap3, .slice E4 M.sn.length dap4])) (fun q _ => L.sn.length - (intOf q).toNat)
      case atStart => exact ⟨0, by omega, rfl, HB.out, HL.out, HM.out, BX.out, BM.out⟩
      case round =>
        clear HB HL HM BX BM
        obtain ⟨t, ht, rfl, HB, HL, HM, BX, BM⟩ := hrel
        have t0 : (0 : Int) ≤ (t : Int) := by omega
        by_cases htl : t < L.sn.length
        · have t1 : (t : Int) < (L.sn.length : Int) := by omega
          obtain ⟨p, q, hw1, hw2⟩ := HA.out.walls k t Hkc.out htl
          obtain ⟨rr, nn, hy1, hy2⟩ := HA.out.why k t Hkc.out htl
          have HW1 := Lib.hid hw1
          have HW2 := Lib.hid hw2
          have HY1 := Lib.hid hy1
          have HY2 := Lib.hid hy2
          have r2 : (rr != rr) = false := by simp
          have n2 : (nn != nn) = false := by simp
          have tp := Lib.hid (beq_self_eq_true p)
          have tq := Lib.hid (beq_self_eq_true q)
          clear hw1 hw2 hy1 hy2
          have BB := BX.out
          have cB := fun i => BB.cell i
          go_wp2_with fail
          clear cB BB
          refine (Land_any _ _ _ _ _ _ _ HL.out).mono ?_
          rintro e ya ⟨a1, a2, a3, a4, ca, rfl, hl, hb⟩
          have Hl := Lib.hid hl
          clear hl
          have HB := Lib.hid (up_later HB.out hb)
          have HL := Lib.hid (HL.out.kept hb)
          have HM := Lib.hid (HM.out.kept hb)
          have BX := Lib.hid (BX.out.kept hb)
          have BM := Lib.hid (BM.out.kept hb)
          clear hb
          go_wp2_with fail
          have AA := Walls_any _ _ _ _ L _ i j k t ya Hl.out
          rw [HW1.out] at AA
          refine AA.mono ?_
          rintro e yb ⟨p1, q1, rfl, hp, hq, hb⟩
          obtain ⟨_, Ap, pp, rfl, _, _⟩ := hp.form
          obtain ⟨_, Aq, pq, rfl, _, _⟩ := hq.form
          have HP := Lib.hid hp
          have HQ := Lib.hid hq
          clear AA Hl hp hq
          have HB := Lib.hid (up_later HB.out hb)
          have HL := Lib.hid (HL.out.kept hb)
          have HM := Lib.hid (HM.out.kept hb)
          have BX := Lib.hid (BX.out.kept hb)
          have BM := Lib.hid (BM.out.kept hb)
          clear hb
          have BB := BM.out
          have cB := fun i => BB.cell i
          go_wp2_with fail
          clear cB BB
          refine (Land_any _ _ _ _ _ _ _ HM.out).mono ?_
          rintro e ya ⟨a1, a2, a3, a4, ca, rfl, hl, hb⟩
          have Hl := Lib.hid hl
          clear hl
          have HB := Lib.hid (up_later HB.out hb)
          have HL := Lib.hid (HL.out.kept hb)
          have HM := Lib.hid (HM.out.kept hb)
          have BX := Lib.hid (BX.out.kept hb)
          have BM := Lib.hid (BM.out.kept hb)
          have HP := Lib.hid (HP.out.kept hb)
          have HQ := Lib.hid (HQ.out.kept hb)
          clear hb
          go_wp2_with fail
          have AA := Walls_any _ _ _ _ M _ i j k t ya Hl.out
          rw [HW2.out] at AA
          refine AA.mono ?_
          rintro e yb ⟨p1, q1, rfl, hp, hq, hb⟩
          obtain ⟨_, Ap2, pp2, rfl, _, _⟩ := hp.form
          obtain ⟨_, Aq2, pq2, rfl, _, _⟩ := hq.form
          have HP2 := Lib.hid hp
          have HQ2 := Lib.hid hq
          clear AA Hl hp hq
          have HB := Lib.hid (up_later HB.out hb)
          have HL := Lib.hid (HL.out.kept hb)
          have HM := Lib.hid (HM.out.kept hb)
          have BX := Lib.hid (BX.out.kept hb)
          have BM := Lib.hid (BM.out.kept hb)
          have HP := Lib.hid (HP.out.kept hb)
          have HQ := Lib.hid (HQ.out.kept hb)
          clear hb
          have BB := BX.out
          have cB := fun i => BB.cell i
          go_wp2_with fail
          clear cB BB
          refine (Land_any _ _ _ _ _ _ _ HL.out).mono ?_
          rintro e ya ⟨a1, a2, a3, a4, ca, rfl, hl, hb⟩
          have Hl := Lib.hid hl
          clear hl
          have HB := Lib.hid (up_later HB.out hb)
          have HL := Lib.hid (HL.out.kept hb)
          have HM := Lib.hid (HM.out.kept hb)
          have BX := Lib.hid (BX.out.kept hb)
          have BM := Lib.hid (BM.out.kept hb)
          have HP := Lib.hid (HP.out.kept hb)
          have HQ := Lib.hid (HQ.out.kept hb)
          have HP2 := Lib.hid (HP2.out.kept hb)
          have HQ2 := Lib.hid (HQ2.out.kept hb)
          clear hb
          go_wp2_with fail
          have AA := Why_any _ _ _ _ L _ i j k t ya Hl.out
          rw [HY1.out] at AA
          refine AA.mono ?_
          rintro e yb ⟨rfl, hb⟩
          clear AA Hl
          have HB := Lib.hid (up_later HB.out hb)
          have HL := Lib.hid (HL.out.kept hb)
          have HM := Lib.hid (HM.out.kept hb)
          have BX := Lib.hid (BX.out.kept hb)
          have BM := Lib.hid (BM.out.kept hb)
          have HP := Lib.hid (HP.out.kept hb)
          have HQ := Lib.hid (HQ.out.kept hb)
          have HP2 := Lib.hid (HP2.out.kept hb)
          have HQ2 := Lib.hid (HQ2.out.kept hb)
          clear hb
          have BB := BM.out
          have cB := fun i => BB.cell i
          go_wp2_with fail
          clear cB BB
          refine (Land_any _ _ _ _ _ _ _ HM.out).mono ?_
          rintro e ya ⟨a1, a2, a3, a4, ca, rfl, hl, hb⟩
          have Hl := Lib.hid hl
          clear hl
          have HB := Lib.hid (up_later HB.out hb)
          have HL := Lib.hid (HL.out.kept hb)
          have HM := Lib.hid (HM.out.kept hb)
          have BX := Lib.hid (BX.out.kept hb)
          have BM := Lib.hid (BM.out.kept hb)
          have HP := Lib.hid (HP.out.kept hb)
          have HQ := Lib.hid (HQ.out.kept hb)
          have HP2 := Lib.hid (HP2.out.kept hb)
          have HQ2 := Lib.hid (HQ2.out.kept hb)
          clear hb
          go_wp2_with fail
          have AA := Why_any _ _ _ _ M _ i j k t ya Hl.out
          rw [HY2.out] at AA
          refine AA.mono ?_
          rintro e yb ⟨rfl, hb⟩
          clear AA Hl
          have HB := Lib.hid (up_later HB.out hb)
          have HL := Lib.hid (HL.out.kept hb)
          have HM := Lib.hid (HM.out.kept hb)
          have BX := Lib.hid (BX.out.kept hb)
          have BM := Lib.hid (BM.out.kept hb)
          have HP := Lib.hid (HP.out.kept hb)
          have HQ := Lib.hid (HQ.out.kept hb)
          have HP2 := Lib.hid (HP2.out.kept hb)
          have HQ2 := Lib.hid (HQ2.out.kept hb)
          clear hb
          go_wp2_with fail
          refine (ints_any _ _ _ _ _ HP.out HP2.out).mono ?_
          rintro e yc ⟨rfl, hb⟩
          rw [tp.out]
          have HB := Lib.hid (up_later HB.out hb)
          have HL := Lib.hid (HL.out.kept hb)
          have HM := Lib.hid (HM.out.kept hb)
          have BX := Lib.hid (BX.out.kept hb)
          have BM := Lib.hid (BM.out.kept hb)
          have HQ := Lib.hid (HQ.out.kept hb)
          have HQ2 := Lib.hid (HQ2.out.kept hb)
          clear hb
          go_wp2_with fail
          refine (ints_any _ _ _ _ _ HQ.out HQ2.out).mono ?_
          rintro e yc ⟨rfl, hb⟩
          rw [tq.out]
          have HB := Lib.hid (up_later HB.out hb)
          have HL := Lib.hid (HL.out.kept hb)
          have HM := Lib.hid (HM.out.kept hb)
          have BX := Lib.hid (BX.out.kept hb)
          have BM := Lib.hid (BM.out.kept hb)
          clear hb
          go_wp2_with fail
          exact ⟨⟨t + 1, by omega, by go_num, HB.out, HL.out, HM.out, BX.out, BM.out⟩, by simp [intOf]; omega⟩
        · obtain rfl : t = L.sn.length := by omega
          have BB := BX.out
          have cB := fun i => BB.cell i
          go_wp2_with fail
          clear cB BB
          exact ⟨⟨k + 1, by omega, by go_num, HB.out, HL.out, HM.out, BX.out, BM.out⟩, by simp [intOf]; omega⟩
    · obtain rfl : k = c.length := by omega
      have BB := BX.out
      have cB := fun i => BB.cell i
      go_wp2_with fail
      clear cB BB
      go_ret
      exact ⟨rfl, HB.out⟩

end Go.Proofs.Ytojbdmdjepgpjaa

namespace Go.Proofs.Ytojbdmdjepgpjaa
open Go.RowKit

theorem upto_congr {p q : Nat → Bool} {n : Nat} (h : ∀ k, k < n → p k = q k) : uptoF p n = uptoF q n := by
  unfold uptoF
  congr 1
  exact List.filter_congr fun k hk => h k (List.mem_range.1 hk)
section
variable {L M : Ld} {i j : Nat}
/-- What two lands must have in common. -/
theorem alike_of (heL : errI L = 0) (heM : errI M = 0) (hi : i < L.st.length) (hj : j < L.st.length) (hij : i ≠ j) (hst : M.st.length = L.st.length) (hcs : M.cs.length = L.cs.length) (hsn : M.sn.length = L.sn.length) (hc0 : 0 < L.cs.length) (hs0 : 0 < L.sn.length)
    (hw : ∀ k t : Nat, k < L.cs.length → t < L.sn.length → whyI M i j k t = whyI L i j k t) (hr : ridgesI M i j = ridgesI L i j) (hc : ∀ k t : Nat, k < L.cs.length → cloudsI M i j k t = cloudsI L i j k t)
    (hz : (stAt M i).z = (stAt L i).z) (hl : ∀ u, clearB M (stAt M i) (stAt M j) u = clearB L (stAt L i) (stAt L j) u) : Alike L M i j := by
  have oL : ∀ k t : Nat, k < L.cs.length → t < L.sn.length → openI L k t [(i : Int), (j : Int)] = 0 := fun k t hk ht => open_zero heL hi hj hk ht hij
  have oM : ∀ k t : Nat, k < L.cs.length → t < L.sn.length → openI M k t [(i : Int), (j : Int)] = 0 := fun k t hk ht => open_zero heM (by omega) (by omega) (by omega) (by omega) hij
  have hf : ∀ k t : Nat, k < L.cs.length → t < L.sn.length → freeB M i j k t = freeB L i j k t := fun k t hk ht => by
    unfold freeB
    rw [hw k t hk ht]
  refine ⟨⟨uptoF (fun h : Nat => (stuckI L i j h).isEmpty) L.sn.length, ?_, ?_⟩, ?_, fun k t hk ht => ⟨_, _, walls_ok (oL k t hk ht), ?_⟩, fun k t hk ht => ⟨(whyI L i j k t).1, (whyI L i j k t).2, ?_, ?_⟩⟩
  · unfold alwaysE
    rw [if_neg (by have := oL 0 0 hc0 hs0; simpa using this)]
  · unfold alwaysE
    rw [if_neg (by have := oM 0 0 hc0 hs0; simpa using this), hsn]
    congr 1
    refine upto_congr fun t ht => ?_
    unfold stuckI
    rw [hcs]
    congr 1
    refine upto_congr fun k hk => ?_
    rw [hf k t hk ht]
  · unfold riseI
    have h1 := oL 0 0 hc0 hs0
    have h2 := oM 0 0 hc0 hs0
    rw [if_neg (by simpa using h2), if_neg (by simpa using h1), hz]
    have : clearB M (stAt M i) (stAt M j) = clearB L (stAt L i) (stAt L j) := funext hl
    rw [this]
  · rw [walls_ok (oM k t hk ht), hr, hc k t hk]
  · unfold whyE
    rw [if_neg (by have := oL k t hk ht; simpa using this)]
  · unfold whyE
    rw [if_neg (by have := oM k t hk ht; simpa using this), hw k t hk ht]
end
section
variable {L : Ld} {i j : Nat} {e n : Int} {q : Bool}
theorem lift_moved {s : St} {u : Nat} : lift (mvSt e n q s) u = mvSt e n q (lift s u) := by
  unfold mvSt lift
  cases q <;> rfl
theorem alike_moved (heL : errI L = 0) (heM : errI (mvLd e n q L) = 0) (hi : i < L.st.length) (hj : j < L.st.length) (hij : i ≠ j) (hc0 : 0 < L.cs.length) (hs0 : 0 < L.sn.length) : Alike L (mvLd e n q L) i j := by
  refine alike_of heL heM hi hj hij (by simp [mvLd]) (by simp [mvLd]) (by simp [mvLd]) hc0 hs0 (fun k t hk ht => why_moved hi hj ht) (ridges_moved hi hj) (fun k t hk => clouds_moved hi hj) ?_ (fun u => ?_)
  · rw [st_moved hi]
    unfold mvSt
    cases q <;> rfl
  · rw [st_moved hi, st_moved hj]
    unfold clearB
    show (!((L.rg.map (mvWl e n q)).any _)) = _
    rw [List.any_map]
    congr 2
    funext x
    show blocksW (lift (mvSt e n q _) u) _ (mvWl e n q x) = _
    rw [lift_moved, block_moved]
/-- One ridge is another one. -/
def setRg (L : Ld) (k : Nat) (x : Wl) : Ld := ⟨L.st, L.rg.set k x, L.cs, L.sn⟩
theorem set_same {k : Nat} {x y : Wl} {l : List Wl} {p : Wl → Bool} (hk : l[k]? = some y) (h : p x = p y) : (l.set k x).map p = l.map p := by
  rw [List.map_set]
  refine List.ext_getElem? fun m => ?_
  rw [List.getElem?_set]
  split
  · rename_i e
    subst e
    split
    · rw [List.getElem?_map, hk]
      simp [h]
    · rename_i h2
      rw [List.getElem?_eq_none (by simpa using h2)]
  · rfl
theorem which_maps {α β : Type} {p : α → Bool} {r : β → Bool} {l : List α} {m : List β} (h : l.map p = m.map r) : whichB p l = whichB r m := by
  have hl : l.length = m.length := by
    have := congrArg List.length h
    simpa using this
  unfold whichB
  rw [hl]
  congr 1
  refine List.filter_congr fun k _ => ?_
  have := congrArg (fun z => z[k]?) h
  simp only [List.getElem?_map] at this
  rw [this]
theorem any_maps {α β : Type} {p : α → Bool} {r : β → Bool} {l : List α} {m : List β} (h : l.map p = m.map r) : l.any p = m.any r := by
  have e1 : l.any p = (l.map p).any id := by rw [List.any_map]; rfl
  have e2 : m.any r = (m.map r).any id := by rw [List.any_map]; rfl
  rw [e1, e2, h]
theorem alike_swap {k : Nat} {x : Wl} (hk : L.rg[k]? = some x) (heL : errI L = 0) (heM : errI (setRg L k (swapW x)) = 0) (hi : i < L.st.length) (hj : j < L.st.length) (hij : i ≠ j) (hc0 : 0 < L.cs.length) (hs0 : 0 < L.sn.length) : Alike L (setRg L k (swapW x)) i j := by
  have hr : ridgesI (setRg L k (swapW x)) i j = ridgesI L i j := which_maps (set_same hk block_swap)
  refine alike_of heL heM hi hj hij rfl rfl rfl hc0 hs0 (fun c t hc ht => ?_) hr (fun c t hc => rfl) rfl (fun u => ?_)
  · unfold whyI
    rw [hr]
    rfl
  · unfold clearB
    show (!((L.rg.set k (swapW x)).any _)) = _
    rw [any_maps (set_same hk block_swap)]
    rfl
end

end Go.Proofs.Ytojbdmdjepgpjaa

namespace Go.Proofs.Ytojbdmdjepgpjaa
open Go.RowKit

section
variable {P : Program} {ops : Array Oper} {md : Region.Mode} {Q : Exit → Act → World → Prop} {n : Nat} {a0 : Act}
theorem wpAny_inv2 (hB : factsB md ops n = true) (Inv : (Nat → Bool) → (Nat → Value) → World → Prop)
    (hstep : ∀ i o, i < n → ops[i]? = some o → ∀ (L : Nat → Bool) (vs : Nat → Value) (w : World), L i = false → (∀ d, d < n → leansOn ops o d = true → L d = true) → (∀ d, d < n → Region.waitsFor md ops i d = true → L d = true) → Inv L vs w →
      if Region.wanted o (yielded ops (putAll (fun _ => true) vs 0 (ops.toList.take n) a0).tmps) then Gives P o (putAll (fun _ => true) vs 0 (ops.toList.take n) a0) w (fun v w' => Inv (fun j => if j = i then true else L j) (fun j => if j = i then v else vs j) w')
      else Inv (fun j => if j = i then true else L j) (fun j => if j = i then undef else vs j) w)
    (htail : ∀ (L : Nat → Bool) (vs : Nat → Value) (w : World), (∀ d, d < n → L d = true) → Inv L vs w → wpList P ops Q (ops.toList.drop n) (putAll (fun _ => true) vs 0 (ops.toList.take n) a0) w) :
    ∀ (fuel : Nat) (listed : Array Bool) (vs : Nat → Value) (w : World), HeadInv md ops n listed → unl n listed = fuel → Inv (fun i => listed.getD i false) vs w →
      wpAny P md ops Q (fuel + (ops.size - n)) listed (putAll (fun i => listed.getD i false) vs 0 (ops.toList.take n) a0) w := by
  simp only [factsB, Bool.and_eq_true, decide_eq_true_eq, Bool.or_eq_true] at hB
  obtain ⟨⟨⟨⟨⟨hsel, hal⟩, hn⟩, hw8⟩, htl⟩, hseq⟩ := hB
  intro fuel
  induction fuel with
  | zero =>
    intro listed vs w inv hu hI
    have hall : ∀ d, d < n → listed.getD d false = true := unl_zero hu
    have hlist : listed = Array.replicate n true ++ Array.replicate (ops.size - n) false := by
      apply Array.ext
      · simp [inv.size]; omega
      · intro i h1 h2
        by_cases hi : i < n
        · have := hall i hi
          simp [h1] at this
          rw [this]
          simp [hi]
        · have := inv.tail i (by omega) (by rw [← inv.size]; exact h1)
          simp [h1] at this
          rw [this]
          simp [Array.getElem_append, hi]
    have hput : putAll (fun i => listed.getD i false) vs 0 (ops.toList.take n) a0 = putAll (fun _ => true) vs 0 (ops.toList.take n) a0 := by
      have hg : ∀ (l : List Oper) (k : Nat) (a : Act), k + l.length ≤ n → putAll (fun i => listed.getD i false) vs k l a = putAll (fun _ => true) vs k l a := by
        intro l
        induction l with
        | nil => intro k a _; rfl
        | cons o r ih =>
          intro k a hk
          simp only [List.length_cons] at hk
          simp only [putAll, hall k (by omega), if_true]
          exact ih (k + 1) _ (by omega)
      exact hg _ 0 a0 (by simp; omega)
    rw [hput, Nat.zero_add]
    have hd : (ops.toList.drop n).length = ops.size - n := by simp
    have := wpAny_of_seq (md := md) (Q' := Q) (P := P) (ops.toList.drop n) n listed (putAll (fun _ => true) vs 0 (ops.toList.take n) a0) w (fun j => by simp [List.getElem?_drop]) (by rw [hd, hlist]; exact hseq)
      (htail _ vs w hall hI)
    rwa [hd] at this
  | succ fuel ih =>
    intro listed vs w inv hu hI
    rw [show fuel + 1 + (ops.size - n) = (fuel + (ops.size - n)) + 1 by omega]
    -- an unlisted one of the first
    have hex : ∃ i, i < n ∧ listed.getD i false = false := by
      rcases Classical.em (∃ i, i < n ∧ listed.getD i false = false) with h | h
      · exact h
      · exfalso
        have : unl n listed = 0 := List.countP_eq_zero.2 fun i hi => by
          cases hl : listed.getD i false with
          | true => simp
          | false => exact absurd ⟨i, List.mem_range.1 hi, hl⟩ h
        omega
    have hop : ∀ i, i < n → ∃ o, ops[i]? = some o ∧ (∀ d, d < n → leansOn ops o d = true → Region.waitsFor md ops i d = true) ∧ (∀ e ∈ o.after, Region.binds md e = true → e.on < i) := by
      intro i hi
      have h1 := List.all_eq_true.1 hw8 i (List.mem_range.2 hi)
      cases ho : ops[i]? with
      | none => rw [ho] at h1; cases h1
      | some o =>
        rw [ho] at h1
        simp only [Bool.and_eq_true] at h1
        refine ⟨o, rfl, fun d hd hl => ?_, fun e he hb => ?_⟩
        · have h2 := List.all_eq_true.1 h1.1 d (List.mem_range.2 hd)
          simp [hl] at h2
          exact h2
        · have h2 := Array.all_eq_true_iff_forall_mem.1 h1.2 e he
          simp [hb] at h2
          exact h2
    have hready : ∃ i, i ∈ Region.ready md ops listed := by
      have hleast : ∀ (k i : Nat), i ≤ k → i < n → listed.getD i false = false → ∃ j, j < n ∧ listed.getD j false = false ∧ ∀ m, m < j → listed.getD m false = true := by
        intro k
        induction k with
        | zero => intro i hik hi h; exact ⟨i, hi, h, fun m hm => by omega⟩
        | succ k ihk =>
          intro i hik hi h
          rcases Classical.em (∃ m, m < i ∧ listed.getD m false = false) with ⟨m, hm, hm'⟩ | hno
          · exact ihk m (by omega) (by omega) hm'
          · exact ⟨i, hi, h, fun m hm => by
              cases hl : listed.getD m false with
              | true => rfl
              | false => exact absurd ⟨m, hm, hl⟩ hno⟩
      obtain ⟨i, hi, hl⟩ := hex
      obtain ⟨j, hj, hjl, hjm⟩ := hleast i i (Nat.le_refl _) hi hl
      obtain ⟨o, ho, _, hb⟩ := hop j hj
      exact ⟨j, mem_ready.2 ⟨getD_in (by rw [inv.size]; omega) hjl, o, ho, fun e he hbe => hjm _ (hb e he hbe)⟩⟩
    refine ⟨fun h0 => (by obtain ⟨i, hi⟩ := hready; rw [h0] at hi; cases hi), fun i hi => ?_⟩
    have hin : i < n := by
      rcases Nat.lt_or_ge i n with h | h
      · exact h
      · exfalso
        obtain ⟨k, hk, hkl⟩ := hex
        obtain ⟨_, oi, hoi, _⟩ := mem_ready.1 hi
        have hlt : i < ops.size := (Array.getElem?_eq_some_iff.1 hoi).1
        rcases htl with he | ⟨hs, hc⟩
        · omega
        · exact tail_waits hs hc (by omega) inv _ k rfl hk (getD_in (by rw [inv.size]; omega) hkl) i h hi
    have hil : listed.getD i false = false := getD_both (mem_ready.1 hi).1
    obtain ⟨o, ho, hdep, _⟩ := hop i hin
    obtain ⟨_, o', ho', hafter⟩ := mem_ready.1 hi
    have hoo : o' = o := Option.some.inj (ho'.symm.trans ho)
    subst hoo
    have hdl : ∀ d, d < n → leansOn ops o' d = true → listed.getD d false = true := by
      intro d hd hl
      obtain ⟨oj, hoj, e, he, hb, hon⟩ := Region.waitsFor_spec (hdep d hd hl)
      have : oj = o' := Option.some.inj (hoj.symm.trans ho)
      subst this
      rw [← hon]
      exact hafter e he hb
    have hagree : Agree (o'.looksAt ops) (putAll (fun i => listed.getD i false) vs 0 (ops.toList.take n) a0) (putAll (fun _ => true) vs 0 (ops.toList.take n) a0) := by
      refine Agree.putAll _ 0 a0 a0 ⟨rfl, fun _ _ => rfl⟩ fun j oj hj hjl d hdst hmem => ?_
      rw [Nat.zero_add] at hjl
      have hj2 : ops[j]? = some oj ∧ j < n := by
        rw [List.getElem?_take] at hj
        split at hj
        · rename_i hlt; exact ⟨by simpa using hj, hlt⟩
        · cases hj
      have := hdl j hj2.2 (by unfold leansOn; rw [hj2.1]; simp [hdst, hmem])
      rw [this] at hjl
      cases hjl
    have hwl : ∀ d, d < n → Region.waitsFor md ops i d = true → listed.getD d false = true := by
      intro d hd hl
      obtain ⟨oj, hoj, e, he, hb, hon⟩ := Region.waitsFor_spec hl
      have : oj = o' := Option.some.inj (hoj.symm.trans ho)
      subst this
      rw [← hon]
      exact hafter e he hb
    have hst := hstep i o' hin ho (fun i => listed.getD i false) vs w hil hdl hwl hI
    have htake : (ops.toList.take n)[i]? = some o' := by rw [List.getElem?_take, if_pos hin]; simpa using ho
    have hnext : ∀ v w', Inv (fun j => if j = i then true else listed.getD j false) (fun j => if j = i then v else vs j) w' → wpAny P md ops Q (fuel + (ops.size - n)) (listed.setIfInBounds i true) ((putAll (fun i => listed.getD i false) vs 0 (ops.toList.take n) a0).put o'.dst v) w' := by
      intro v w' hI'
      have hset := putAll_set (sel := fun i => listed.getD i false) (vs := vs) v (ops.toList.take n) 0 i a0 o' hal htake (by simpa using hil)
      simp only [Nat.zero_add] at hset
      rw [← hset]
      have hsize : i < listed.size := by rw [inv.size]; omega
      have hfun : (fun j => if j = i then true else listed.getD j false) = fun j => (listed.setIfInBounds i true).getD j false := by
        funext j
        by_cases hji : j = i
        · subst hji; simp [hsize]
        · rw [if_neg hji, getD_set_ne false (Ne.symm hji)]
      rw [hfun]
      refine ih (listed.setIfInBounds i true) (fun j => if j = i then v else vs j) w' (inv.set hi hin) (by have := unl_set hin hsize hil; omega) ?_
      rw [← hfun]
      exact hI'
    unfold wpOp
    rw [ho]
    simp only
    rw [hagree.wanted]
    split
    · rename_i hw
      rw [if_pos hw] at hst
      exact .inl (Gives.wp (hagree.exec fun cs c => Region.noSelect_spec hsel i o' cs c ho) hst fun v w' h => hnext v w' h)
    · rename_i hw
      rw [if_neg hw] at hst
      exact hnext undef w hst
end

/-- The cell a may have been put to u. -/
def Puts (w0 : World) (a : Addr) (u : Value) (w : World) : Prop := Below w0.heap.size w0 w ∨ Below w0.heap.size (w0.setCell a u) w
section
variable {w0 w wt : World} {a : Addr} {u : Value}
theorem below_put {n : Nat} (h : Below n w0 wt) : Below n (w0.setCell a u) (wt.setCell a u) := by
  refine ⟨h.os, h.tape, h.output, ?_, fun k hk => ?_⟩
  · have := h.size
    simpa [World.setCell] using this
  · simp only [World.setCell, Array.getElem?_modify, h.block k hk]
theorem Puts.block (h : Puts w0 a u w) {k : Nat} (hk : k < w0.heap.size) (ha : k ≠ a.block) : w.heap[k]? = w0.heap[k]? := by
  rcases h with h | h
  · exact h.block k hk
  · rw [h.block k hk]
    exact Below.heap_setCell w0 a u k ha
theorem Box.puts {g t : Nat} {cs : Array Value} (hb : Box w0 g t cs) (h : Puts w0 a u w) (ha : g ≠ a.block) : Box w g t cs := (h.block hb.lt ha).trans hb
theorem Puts.later {w' : World} (h : Puts w0 a u w) (hb : Below w.heap.size w w') : Puts w0 a u w' := by
  have hs : (w0.setCell a u).heap.size = w0.heap.size := by simp [World.setCell]
  rcases h with h | h
  · exact .inl (h.trans (hb.mono h.size))
  · have := h.size
    rw [hs] at this
    exact .inr (h.trans (hb.mono this))
end

structure PutInv (ops : Array Oper) (Cs : List Value) (n p : Nat) (w0 : World) (a : Addr) (u : Value) (L : Nat → Bool) (vs : Nat → Value) (w : World) : Prop where
  each : ∀ d, d < n → d ≠ p → L d = true → vs d = Cs.getD d undef
  before : L p = false → Below w0.heap.size w0 w
  behind : L p = true → Below w0.heap.size (w0.setCell a u) w
  waits : L p = true → ∀ d, d < n → Region.waitsFor .any ops p d = true → L d = true

/-- **A region that draws its order, and puts one cell.** -/
theorem wp_region_put {P : Program} {id : Nat} {Q : Exit → Act → World → Prop} {a0 : Act} {w0 : World} {l : List Oper} (n p : Nat) (a : Addr) (u : Value) (Cs : List Value) (A : (Nat → Value) → Act)
    (hm : P.follows .mixedOrders = true) (hB : factsB .any l.toArray n = true) (hpn : p < n) (hA : ∀ vs, putAll (fun _ => true) vs 0 (l.take n) a0 = A vs)
    (hstep : ∀ (vs : Nat → Value), Each (fun i o => i ≠ p → ∀ w : World, Puts w0 a u w → (Region.waitsFor .any l.toArray p i = true → Below w0.heap.size w0 w) → (∀ d, d < n → leansOn l.toArray o d = true → d ≠ p → vs d = Cs.getD d undef) →
      Region.wanted o (yielded l.toArray (A vs).tmps) = true ∧ Gives P o (A vs) w (fun v w' => Below w.heap.size w w' ∧ v = Cs.getD i undef)) 0 (l.take n))
    (hp : ∀ (vs : Nat → Value) (o : Oper), l[p]? = some o → ∀ w : World, Below w0.heap.size w0 w → (∀ d, d < n → leansOn l.toArray o d = true → d ≠ p → vs d = Cs.getD d undef) →
      Region.wanted o (yielded l.toArray (A vs).tmps) = true ∧ Gives P o (A vs) w (fun _ w' => w' = w.setCell a u))
    (htail : ∀ (vs : Nat → Value) (w : World), Below w0.heap.size (w0.setCell a u) w → (∀ d, d < n → d ≠ p → vs d = Cs.getD d undef) → wpList P l.toArray Q (l.drop n) (A vs) w) :
    (Code.region id l.toArray true).wp P Q a0 w0 := by
  refine wp_region_any hm ?_
  have hn : n ≤ l.toArray.size := by
    simp only [factsB, Bool.and_eq_true, decide_eq_true_eq] at hB
    exact hB.1.1.1.2
  have inv0 : HeadInv .any l.toArray n (Array.replicate l.toArray.size false) :=
    ⟨by simp, fun j oj _ hl => (by rw [getD_replicate_false] at hl; cases hl), fun t _ ht => getD_in (by simpa using ht) (getD_replicate_false _ _)⟩
  have hun : unl n (Array.replicate l.toArray.size false) = n := by
    unfold unl
    rw [List.countP_eq_length.2]
    · simp
    · intro i _; rw [getD_replicate_false]; rfl
  have hput : putAll (fun i => (Array.replicate l.toArray.size false).getD i false) (fun _ => undef) 0 (l.take n) a0 = a0 := by
    have hg : ∀ (l' : List Oper) (k : Nat) (a : Act), putAll (fun i => (Array.replicate l.toArray.size false).getD i false) (fun _ => undef) k l' a = a := by
      intro l'
      induction l' with
      | nil => intro k a; rfl
      | cons o r ih => intro k a; unfold putAll; rw [getD_replicate_false, if_neg (by simp)]; exact ih _ _
    exact hg _ _ _
  have h0 : PutInv l.toArray Cs n p w0 a u (fun i => (Array.replicate l.toArray.size false).getD i false) (fun _ => undef) w0.drew :=
    ⟨(fun d _ _ h => by simp only [getD_replicate_false] at h; cases h), (fun _ => (Below.refl _ _).drew), (fun h => by simp only [getD_replicate_false] at h; cases h), (fun h => by simp only [getD_replicate_false] at h; cases h)⟩
  have hs0 : (w0.setCell a u).heap.size = w0.heap.size := by simp [World.setCell]
  have := wpAny_inv2 (P := P) (md := .any) (ops := l.toArray) (Q := Q) (n := n) (a0 := a0) hB (PutInv l.toArray Cs n p w0 a u) (fun i o hi ho L vs w hLi hdep hwait hI => ?_) (fun L vs w hall hI => ?_) n (Array.replicate l.toArray.size false) (fun _ => undef) w0.drew inv0 hun h0
  · rw [hput, show n + (l.toArray.size - n) = l.toArray.size by omega] at this
    exact this
  · have hAA : putAll (fun _ => true) vs 0 (l.toArray.toList.take n) a0 = A vs := hA vs
    rw [hAA]
    have hdeps : ∀ d, d < n → leansOn l.toArray o d = true → d ≠ p → vs d = Cs.getD d undef := fun d hd hl hdp => hI.each d hd hdp (hdep d hd hl)
    have hset : ∀ {j : Nat}, j ≠ i → (if j = i then true else L j) = L j := fun h => if_neg h
    by_cases hip : i = p
    · subst hip
      have h1 := hp vs o (by simpa using ho) w (hI.before hLi) hdeps
      rw [if_pos h1.1]
      refine h1.2.mono fun v w' hw' => ⟨fun d hd hdp hl => ?_, fun hl => ?_, fun _ => ?_, fun _ d hd hl => ?_⟩
      · rw [hset hdp] at hl
        rw [if_neg hdp]
        exact hI.each d hd hdp hl
      · simp at hl
      · subst hw'
        exact below_put (hI.before hLi)
      · by_cases hdi : d = i
        · rw [if_pos hdi]
        · rw [if_neg hdi]
          exact hwait d hd hl
    · have hE := Each.get (hstep vs) i o (by rw [List.getElem?_take, if_pos hi]; simpa using ho)
      rw [Nat.zero_add] at hE
      have hP : Puts w0 a u w := by
        cases hLp : L p with
        | false => exact .inl (hI.before hLp)
        | true => exact .inr (hI.behind hLp)
      have h1 := hE hip w hP (fun hwf => by
        cases hLp : L p with
        | false => exact hI.before hLp
        | true =>
          have := hI.waits hLp i hi hwf
          rw [hLi] at this
          cases this) hdeps
      rw [if_pos h1.1]
      refine h1.2.mono fun v w' ⟨hb, hv⟩ => ⟨fun d hd hdp hl => ?_, fun hl => ?_, fun hl => ?_, fun hl d hd hwf => ?_⟩
      · by_cases hdi : d = i
        · subst hdi
          rw [if_pos rfl]
          exact hv
        · rw [hset hdi] at hl
          rw [if_neg hdi]
          exact hI.each d hd hdp hl
      · rw [hset (Ne.symm hip)] at hl
        exact up_later (hI.before hl) hb
      · rw [hset (Ne.symm hip)] at hl
        have h2 := hI.behind hl
        have h3 := h2.size
        rw [hs0] at h3
        exact h2.trans (hb.mono h3)
      · rw [hset (Ne.symm hip)] at hl
        by_cases hdi : d = i
        · rw [if_pos hdi]
        · rw [if_neg hdi]
          exact hI.waits hl d hd hwf
  · have hAA : putAll (fun _ => true) vs 0 (l.toArray.toList.take n) a0 = A vs := hA vs
    rw [hAA]
    exact htail vs w (hI.behind (hall p hpn)) fun d hd hdp => hI.each d hd hdp (hall d hd)

end Go.Proofs.Ytojbdmdjepgpjaa

namespace Go.Proofs.Ytojbdmdjepgpjaa
open Go.RowKit

/-- What is known of a value, and lasts while all that lies goes on lying; 'free': it says nothing of memory. -/
structure FactK where
  p : Value → World → Prop
  st : ∀ v w w', p v w → Below w.heap.size w w' → p v w'
  free : Bool
  fr : free = true → ∀ v w w', p v w → p v w'
def FactK.eq (c : Value) : FactK := ⟨fun v _ => v = c, fun _ _ _ h _ => h, true, fun _ _ _ _ h => h⟩
def FactK.any : FactK := ⟨fun _ _ => True, fun _ _ _ _ _ => trivial, true, fun _ _ _ _ _ => trivial⟩
def FactK.sl (n0 len t : Nat) (cs : Array Value) : FactK := ⟨fun v w => ∃ g, v = .slice (some ⟨g, 0, none⟩) len len ∧ Box w g t cs ∧ n0 ≤ g, fun _ _ _ ⟨g, h, h1, h2⟩ hb => ⟨g, h, h1.kept hb, h2⟩, false, fun h => by cases h⟩
def FactK.own (n0 e sz n : Nat) (xs : List Value) : FactK := ⟨fun v w => ∃ A m p, v = .slice A m p ∧ w.ownsRow n0 e sz (.slice A m p) n xs, fun _ _ _ ⟨A, m, p, h, h1⟩ hb => ⟨A, m, p, h, own_below h1 hb⟩, false, fun h => by cases h⟩

structure KillInv (ops : Array Oper) (Fs : List FactK) (n p : Nat) (kill : Nat → Bool) (w0 : World) (L : Nat → Bool) (vs : Nat → Value) (w : World) : Prop where
  below : Below w0.heap.size w0 w
  each : ∀ d, d < n → L d = true → (L p = true → kill d = false) → (Fs.getD d FactK.any).p (vs d) w
  waits : L p = true → ∀ d, d < n → Region.waitsFor .any ops p d = true → L d = true
def leansAt (ops : Array Oper) (i d : Nat) : Bool := match ops[i]? with | some o => leansOn ops o d | none => false
def killB (ops : Array Oper) (n p : Nat) (kill : Nat → Bool) : Bool :=
  decide (p < n) && !kill p && (List.range n).all fun i => (List.range n).all fun d => !kill d || i == p || !leansAt ops i d || Region.waitsFor .any ops p i

/-- **A region that draws its order, whose operation p spoils some of the facts.** -/
theorem wp_region_kill {P : Program} {id : Nat} {Q : Exit → Act → World → Prop} {a0 : Act} {w0 : World} {l : List Oper} (n p : Nat) (kill : Nat → Bool) (Fs : List FactK) (A : (Nat → Value) → Act)
    (hm : P.follows .mixedOrders = true) (hB : factsB .any l.toArray n = true) (hk : killB l.toArray n p kill = true) (hfree : ((List.range n).all fun d => d == p || kill d || (Fs.getD d FactK.any).free) = true) (hA : ∀ vs, putAll (fun _ => true) vs 0 (l.take n) a0 = A vs)
    (hstep : ∀ (vs : Nat → Value), Each (fun i o => i ≠ p → ∀ w : World, Below w0.heap.size w0 w → (∀ d, d < n → leansOn l.toArray o d = true → (Fs.getD d FactK.any).p (vs d) w) →
      Region.wanted o (yielded l.toArray (A vs).tmps) = true ∧ Gives P o (A vs) w (fun v w' => Below w.heap.size w w' ∧ (Fs.getD i FactK.any).p v w')) 0 (l.take n))
    (hp : ∀ (vs : Nat → Value) (o : Oper), l[p]? = some o → ∀ w : World, Below w0.heap.size w0 w → (∀ d, d < n → leansOn l.toArray o d = true → (Fs.getD d FactK.any).p (vs d) w) →
      Region.wanted o (yielded l.toArray (A vs).tmps) = true ∧ Gives P o (A vs) w (fun v w' => Below w0.heap.size w0 w' ∧ (Fs.getD p FactK.any).p v w'))
    (htail : ∀ (vs : Nat → Value) (w : World), Below w0.heap.size w0 w → (∀ d, d < n → kill d = false → (Fs.getD d FactK.any).p (vs d) w) → wpList P l.toArray Q (l.drop n) (A vs) w) :
    (Code.region id l.toArray true).wp P Q a0 w0 := by
  refine wp_region_any hm ?_
  have hn : n ≤ l.toArray.size := by
    simp only [factsB, Bool.and_eq_true, decide_eq_true_eq] at hB
    exact hB.1.1.1.2
  simp only [killB, Bool.and_eq_true, decide_eq_true_eq, Bool.not_eq_true'] at hk
  obtain ⟨⟨hpn, hkp⟩, hk3⟩ := hk
  have inv0 : HeadInv .any l.toArray n (Array.replicate l.toArray.size false) :=
    ⟨by simp, fun j oj _ hl => (by rw [getD_replicate_false] at hl; cases hl), fun t _ ht => getD_in (by simpa using ht) (getD_replicate_false _ _)⟩
  have hun : unl n (Array.replicate l.toArray.size false) = n := by
    unfold unl
    rw [List.countP_eq_length.2]
    · simp
    · intro i _; rw [getD_replicate_false]; rfl
  have hput : putAll (fun i => (Array.replicate l.toArray.size false).getD i false) (fun _ => undef) 0 (l.take n) a0 = a0 := by
    have hg : ∀ (l' : List Oper) (k : Nat) (a : Act), putAll (fun i => (Array.replicate l.toArray.size false).getD i false) (fun _ => undef) k l' a = a := by
      intro l'
      induction l' with
      | nil => intro k a; rfl
      | cons o r ih => intro k a; unfold putAll; rw [getD_replicate_false, if_neg (by simp)]; exact ih _ _
    exact hg _ _ _
  have h0 : KillInv l.toArray Fs n p kill w0 (fun i => (Array.replicate l.toArray.size false).getD i false) (fun _ => undef) w0.drew :=
    ⟨(Below.refl _ _).drew, (fun d _ h => by simp only [getD_replicate_false] at h; cases h), (fun h => by simp only [getD_replicate_false] at h; cases h)⟩
  have := wpAny_inv2 (P := P) (md := .any) (ops := l.toArray) (Q := Q) (n := n) (a0 := a0) hB (KillInv l.toArray Fs n p kill w0) (fun i o hi ho L vs w hLi hdep hwait hI => ?_) (fun L vs w hall hI => ?_) n (Array.replicate l.toArray.size false) (fun _ => undef) w0.drew inv0 hun h0
  · rw [hput, show n + (l.toArray.size - n) = l.toArray.size by omega] at this
    exact this
  · have hAA : putAll (fun _ => true) vs 0 (l.toArray.toList.take n) a0 = A vs := hA vs
    rw [hAA]
    have hset : ∀ {j : Nat}, j ≠ i → (if j = i then true else L j) = L j := fun h => if_neg h
    have hdeps : ∀ d, d < n → leansOn l.toArray o d = true → (Fs.getD d FactK.any).p (vs d) w := fun d hd hl => by
      refine hI.each d hd (hdep d hd hl) fun hLp => ?_
      cases hkd : kill d with
      | false => rfl
      | true =>
        exfalso
        have h1 := List.all_eq_true.1 (List.all_eq_true.1 hk3 i (List.mem_range.2 hi)) d (List.mem_range.2 hd)
        have h2 : leansAt l.toArray i d = true := by unfold leansAt; rw [ho]; exact hl
        rw [hkd, h2] at h1
        simp only [Bool.not_true, Bool.false_or, Bool.or_false, Bool.or_eq_true, beq_iff_eq] at h1
        rcases h1 with h1 | h1
        · rw [h1] at hLi
          rw [hLi] at hLp
          cases hLp
        · have := hI.waits hLp i hi h1
          rw [hLi] at this
          cases this
    by_cases hip : i = p
    · subst hip
      have h1 := hp vs o (by simpa using ho) w hI.below hdeps
      rw [if_pos h1.1]
      refine h1.2.mono fun v w' ⟨hb, hf⟩ => ⟨hb, fun d hd hl hki => ?_, fun _ d hd hl => ?_⟩
      · by_cases hdi : d = i
        · subst hdi
          rw [if_pos rfl]
          exact hf
        · rw [hset hdi] at hl
          rw [if_neg hdi]
          have hfd := List.all_eq_true.1 hfree d (List.mem_range.2 hd)
          rw [hki (if_pos rfl)] at hfd
          simp only [Bool.or_false, Bool.or_eq_true, beq_iff_eq] at hfd
          exact (Fs.getD d FactK.any).fr (hfd.resolve_left hdi) _ _ _ (hI.each d hd hl fun h => by rw [hLi] at h; cases h)
      · by_cases hdi : d = i
        · rw [if_pos hdi]
        · rw [if_neg hdi]
          exact hwait d hd hl
    · have hE := Each.get (hstep vs) i o (by rw [List.getElem?_take, if_pos hi]; simpa using ho)
      rw [Nat.zero_add] at hE
      have h1 := hE hip w hI.below hdeps
      rw [if_pos h1.1]
      refine h1.2.mono fun v w' ⟨hb, hv⟩ => ⟨up_later hI.below hb, fun d hd hl hki => ?_, fun hl d hd hwf => ?_⟩
      · rw [hset (Ne.symm hip)] at hki
        by_cases hdi : d = i
        · subst hdi
          rw [if_pos rfl]
          exact hv
        · rw [hset hdi] at hl
          rw [if_neg hdi]
          exact (Fs.getD d FactK.any).st _ _ _ (hI.each d hd hl hki) hb
      · rw [hset (Ne.symm hip)] at hl
        by_cases hdi : d = i
        · rw [if_pos hdi]
        · rw [if_neg hdi]
          exact hI.waits hl d hd hwf
  · have hAA : putAll (fun _ => true) vs 0 (l.toArray.toList.take n) a0 = A vs := hA vs
    rw [hAA]
    exact htail vs w hI.below fun d hd hkd => hI.each d hd (hall d hd) fun _ => hkd

/-- Some cells are put, one after the other. -/
def putsTo : List (Nat × Addr × Value) → World → World
  | [], w => w
  | (_, a, u) :: r, w => putsTo r (w.setCell a u)
theorem putsTo_take {S : List (Nat × Addr × Value)} {m : Nat} {x : Nat × Addr × Value} {w : World} (h : S[m]? = some x) : putsTo (S.take (m + 1)) w = (putsTo (S.take m) w).setCell x.2.1 x.2.2 := by
  induction S generalizing m w with
  | nil => cases h
  | cons y r ih =>
    obtain ⟨i, a, u⟩ := y
    cases m with
    | zero =>
      simp only [List.getElem?_cons_zero, Option.some.injEq] at h
      subst h
      rfl
    | succ m =>
      simp only [List.getElem?_cons_succ] at h
      simp only [List.take_succ_cons, putsTo]
      exact ih h
theorem putsTo_size {S : List (Nat × Addr × Value)} {w : World} : (putsTo S w).heap.size = w.heap.size := by
  induction S generalizing w with
  | nil => rfl
  | cons y r ih =>
    obtain ⟨i, a, u⟩ := y
    simp only [putsTo]
    rw [ih]
    simp [World.setCell]

theorem box_puts {S : List (Nat × Addr × Value)} {w : World} {g t j : Nat} {cs : Array Value} (h : Box w g t cs) (hn : ∀ x ∈ S, g ≠ x.2.1.block) : Box (putsTo (S.take j) w) g t cs := by
  induction S generalizing w j with
  | nil => simpa [putsTo] using h
  | cons y r ih =>
    obtain ⟨i, a, u⟩ := y
    cases j with
    | zero => simpa [putsTo] using h
    | succ j =>
      simp only [List.take_succ_cons, putsTo]
      exact ih (h.far (p := a) (hn _ (List.mem_cons_self ..)) u) fun x hx => hn x (List.mem_cons_of_mem _ hx)

structure PutsInv (ops : Array Oper) (Cs : List Value) (S : List (Nat × Addr × Value)) (n : Nat) (w0 : World) (L : Nat → Bool) (vs : Nat → Value) (w : World) : Prop where
  each : ∀ d, d < n → S.any (fun x => x.1 == d) = false → L d = true → vs d = Cs.getD d undef
  upto : ∃ j, j ≤ S.length ∧ (∀ m x, S[m]? = some x → L x.1 = decide (m < j)) ∧ Below w0.heap.size (putsTo (S.take j) w0) w
  waits : ∀ x ∈ S, L x.1 = true → ∀ d, d < n → Region.waitsFor .any ops x.1 d = true → L d = true
def putsB (ops : Array Oper) (n : Nat) (S : List (Nat × Addr × Value)) : Bool :=
  S.all (fun x => decide (x.1 < n)) && (List.range S.length).all fun m => (List.range m).all fun k => match S[k]?, S[m]? with | some x, some y => Region.waitsFor .any ops y.1 x.1 && decide (x.1 ≠ y.1) | _, _ => true

/-- **A region that draws its order, and puts several cells, one after the other.** -/
theorem wp_region_puts {P : Program} {id : Nat} {Q : Exit → Act → World → Prop} {a0 : Act} {w0 : World} {l : List Oper} (n : Nat) (S : List (Nat × Addr × Value)) (Cs : List Value) (A : (Nat → Value) → Act)
    (hm : P.follows .mixedOrders = true) (hB : factsB .any l.toArray n = true) (hS : putsB l.toArray n S = true) (hA : ∀ vs, putAll (fun _ => true) vs 0 (l.take n) a0 = A vs)
    (hstep : ∀ (vs : Nat → Value), Each (fun i o => S.any (fun x => x.1 == i) = false → ∀ w : World, w0.heap.size ≤ w.heap.size → (∃ j, j ≤ S.length ∧ (∀ m x, m < j → S[m]? = some x → Region.waitsFor .any l.toArray x.1 i = false) ∧ Below w0.heap.size (putsTo (S.take j) w0) w) → (∀ d, d < n → leansOn l.toArray o d = true → S.any (fun x => x.1 == d) = false → vs d = Cs.getD d undef) →
      Region.wanted o (yielded l.toArray (A vs).tmps) = true ∧ Gives P o (A vs) w (fun v w' => Below w.heap.size w w' ∧ v = Cs.getD i undef)) 0 (l.take n))
    (hp : ∀ (vs : Nat → Value) (m : Nat) (x : Nat × Addr × Value) (o : Oper), S[m]? = some x → l[x.1]? = some o → ∀ w : World, Below w0.heap.size (putsTo (S.take m) w0) w → (∀ d, d < n → leansOn l.toArray o d = true → S.any (fun x => x.1 == d) = false → vs d = Cs.getD d undef) →
      Region.wanted o (yielded l.toArray (A vs).tmps) = true ∧ Gives P o (A vs) w (fun _ w' => w' = w.setCell x.2.1 x.2.2))
    (htail : ∀ (vs : Nat → Value) (w : World), Below w0.heap.size (putsTo S w0) w → (∀ d, d < n → S.any (fun x => x.1 == d) = false → vs d = Cs.getD d undef) → wpList P l.toArray Q (l.drop n) (A vs) w) :
    (Code.region id l.toArray true).wp P Q a0 w0 := by
  refine wp_region_any hm ?_
  have hn : n ≤ l.toArray.size := by
    simp only [factsB, Bool.and_eq_true, decide_eq_true_eq] at hB
    exact hB.1.1.1.2
  simp only [putsB, Bool.and_eq_true, List.all_eq_true, decide_eq_true_eq, List.mem_range] at hS
  obtain ⟨hSn, hSc⟩ := hS
  have inv0 : HeadInv .any l.toArray n (Array.replicate l.toArray.size false) :=
    ⟨by simp, fun j oj _ hl => (by rw [getD_replicate_false] at hl; cases hl), fun t _ ht => getD_in (by simpa using ht) (getD_replicate_false _ _)⟩
  have hun : unl n (Array.replicate l.toArray.size false) = n := by
    unfold unl
    rw [List.countP_eq_length.2]
    · simp
    · intro i _; rw [getD_replicate_false]; rfl
  have hput : putAll (fun i => (Array.replicate l.toArray.size false).getD i false) (fun _ => undef) 0 (l.take n) a0 = a0 := by
    have hg : ∀ (l' : List Oper) (k : Nat) (a : Act), putAll (fun i => (Array.replicate l.toArray.size false).getD i false) (fun _ => undef) k l' a = a := by
      intro l'
      induction l' with
      | nil => intro k a; rfl
      | cons o r ih => intro k a; unfold putAll; rw [getD_replicate_false, if_neg (by simp)]; exact ih _ _
    exact hg _ _ _
  have h0 : PutsInv l.toArray Cs S n w0 (fun i => (Array.replicate l.toArray.size false).getD i false) (fun _ => undef) w0.drew :=
    ⟨(fun d _ _ h => by simp only [getD_replicate_false] at h; cases h), ⟨0, Nat.zero_le _, (fun m x _ => by simp only [getD_replicate_false]; simp), by simpa [putsTo] using (Below.refl w0.heap.size w0).drew⟩, (fun x _ h => by simp only [getD_replicate_false] at h; cases h)⟩
  have := wpAny_inv2 (P := P) (md := .any) (ops := l.toArray) (Q := Q) (n := n) (a0 := a0) hB (PutsInv l.toArray Cs S n w0) (fun i o hi ho L vs w hLi hdep hwait hI => ?_) (fun L vs w hall hI => ?_) n (Array.replicate l.toArray.size false) (fun _ => undef) w0.drew inv0 hun h0
  · rw [hput, show n + (l.toArray.size - n) = l.toArray.size by omega] at this
    exact this
  · have hAA : putAll (fun _ => true) vs 0 (l.toArray.toList.take n) a0 = A vs := hA vs
    rw [hAA]
    have hset : ∀ {j : Nat}, j ≠ i → (if j = i then true else L j) = L j := fun h => if_neg h
    have hdeps : ∀ d, d < n → leansOn l.toArray o d = true → S.any (fun x => x.1 == d) = false → vs d = Cs.getD d undef := fun d hd hl hds => hI.each d hd hds (hdep d hd hl)
    obtain ⟨j, hj, hLj, hbj⟩ := hI.upto
    by_cases hip : S.any (fun x => x.1 == i) = true
    · obtain ⟨x, hx, hxi⟩ := List.any_eq_true.1 hip
      simp only [beq_iff_eq] at hxi
      obtain ⟨m, hm2⟩ := List.mem_iff_getElem?.1 hx
      have hmlt : m < S.length := (List.getElem?_eq_some_iff.1 hm2).1
      have hmj : j = m := by
        have h1 := hLj m x hm2
        rw [hxi, hLi] at h1
        have h2 : ¬ m < j := by simpa using h1.symm
        rcases Nat.lt_or_ge j m with h3 | h3
        · exfalso
          have hjl : j < S.length := by omega
          have h4 := hSc m hmlt j h3
          rw [hm2, List.getElem?_eq_getElem hjl] at h4
          simp only [Bool.and_eq_true, decide_eq_true_eq] at h4
          have h5 := hwait _ (hSn S[j] (List.getElem_mem hjl)) (by rw [hxi] at h4; exact h4.1)
          rw [hLj j S[j] (List.getElem?_eq_getElem hjl)] at h5
          simp at h5
        · omega
      subst hmj
      have h1 := hp vs j x o hm2 (by rw [hxi]; simpa using ho) w hbj hdeps
      rw [if_pos h1.1]
      refine h1.2.mono fun v w' hw' => ⟨fun d hd hds hl => ?_, ⟨j + 1, by omega, fun k y hy => ?_, ?_⟩, fun y hy hl d hd hwf => ?_⟩
      · have hdi : d ≠ i := fun e => by rw [e, hip] at hds; cases hds
        rw [hset hdi] at hl
        rw [if_neg hdi]
        exact hI.each d hd hds hl
      · by_cases hyi : y.1 = i
        · rw [if_pos hyi]
          have hkj : k = j := by
            have h1 := hLj k y hy
            rw [hyi, hLi] at h1
            have h2 : ¬ k < j := by simpa using h1.symm
            rcases Nat.lt_or_ge j k with h3 | h3
            · exfalso
              have hkl : k < S.length := (List.getElem?_eq_some_iff.1 hy).1
              have h4 := hSc k hkl j h3
              rw [hy, hm2] at h4
              simp only [Bool.and_eq_true, decide_eq_true_eq] at h4
              exact h4.2 (hxi.trans hyi.symm)
            · omega
          subst hkj
          simp
        · rw [if_neg hyi, hLj k y hy]
          have : k ≠ j := fun e => by
            subst e
            rw [hm2] at hy
            cases hy
            exact hyi hxi
          have e : (k < j + 1) = (k < j) := by
            apply propext
            omega
          simp only [e]
      · subst hw'
        rw [putsTo_take hm2]
        exact below_put hbj
      · by_cases hdi : d = i
        · rw [if_pos hdi]
        · rw [if_neg hdi]
          by_cases hyi : y.1 = i
          · rw [hyi] at hwf
            exact hwait d hd hwf
          · rw [hset hyi] at hl
            exact hI.waits y hy hl d hd hwf
    · have hip' : S.any (fun x => x.1 == i) = false := Bool.eq_false_iff.2 hip
      have hni : ∀ x ∈ S, x.1 ≠ i := fun x hx e => hip (List.any_eq_true.2 ⟨x, hx, by simpa using e⟩)
      have hE := Each.get (hstep vs) i o (by rw [List.getElem?_take, if_pos hi]; simpa using ho)
      rw [Nat.zero_add] at hE
      have hsz := hbj.size
      rw [putsTo_size] at hsz
      have hno : ∀ (m : Nat) (x : Nat × Addr × Value), m < j → S[m]? = some x → Region.waitsFor .any l.toArray x.1 i = false := by
        intro m x hm hx
        cases hwf : Region.waitsFor .any l.toArray x.1 i with
        | false => rfl
        | true =>
          have h2 := hLj m x hx
          rw [decide_eq_true hm] at h2
          have h3 := hI.waits x (List.mem_of_getElem? hx) h2 i hi hwf
          rw [hLi] at h3
          cases h3
      have h1 := hE hip' w hsz ⟨j, hj, hno, hbj⟩ hdeps
      rw [if_pos h1.1]
      refine h1.2.mono fun v w' ⟨hb, hv⟩ => ⟨fun d hd hds hl => ?_, ⟨j, hj, fun k y hy => ?_, hbj.trans (hb.mono hsz)⟩, fun y hy hl d hd hwf => ?_⟩
      · by_cases hdi : d = i
        · subst hdi
          rw [if_pos rfl]
          exact hv
        · rw [hset hdi] at hl
          rw [if_neg hdi]
          exact hI.each d hd hds hl
      · rw [if_neg (hni y (List.mem_of_getElem? hy))]
        exact hLj k y hy
      · rw [hset (hni y hy)] at hl
        by_cases hdi : d = i
        · rw [if_pos hdi]
        · rw [if_neg hdi]
          exact hI.waits y hy hl d hd hwf
  · have hAA : putAll (fun _ => true) vs 0 (l.toArray.toList.take n) a0 = A vs := hA vs
    rw [hAA]
    obtain ⟨j, hj, hLj, hbj⟩ := hI.upto
    have hjl : j = S.length := by
      rcases Nat.lt_or_ge j S.length with h | h
      · exfalso
        have h1 := hLj j S[j] (List.getElem?_eq_getElem h)
        rw [hall _ (hSn S[j] (List.getElem_mem h))] at h1
        simp at h1
      · omega
    subst hjl
    rw [List.take_length] at hbj
    exact htail vs w hbj fun d hd hds => hI.each d hd hds (hall d hd)

section
variable {P : Program}
/-- 'append' of all that a slice reads as, onto a slice of the call's own. -/
theorem run_append_rows {w : World} (base : Nat) (t ty e : TypeId) (i : TypeInfo) (z : Value) (size bytes : Nat) (ht : P.underlying t = some (.slice e)) (hi : P.info? e = some i) (hz : i.zero = some z)
    (hsize : i.size = size) (hby : i.bytes = bytes) (hzs : z.cells.size = size) (hsz : 0 < size) (v : Value) (n : Nat) (xs : List Value) (hown : w.ownsRow base e size v n xs)
    {α : Type} (cells : α → List Value) (l : List α) (u : Value) (hR : RowsAt w u size cells l) (hc : ∀ x, (cells x).length = size) (h1 : ∀ x ∈ l, ∀ y ∈ cells x, y.oneCell' = true)
    (h63 : n + l.length ≤ maxLen) (hbytes : (n + l.length) * bytes ≤ 140737488355328) (hbase : base ≤ w.heap.size) :
    ∃ v' w', (Builtin.append_ #[t, t] ty #[v, u]).run P w = .ok v' w' ∧ w'.ownsRow base e size v' (n + l.length) (xs ++ l.flatMap cells) ∧ w.grownBy w' v.ownBlock ∧ (v'.ownBlock = v.ownBlock ∨ v'.ownBlock = some w.heap.size) := by
  obtain ⟨_, A, cap, rfl, _, _, hcell⟩ := hR
  have hl := flat_len hc l
  have ho1 : ∀ y ∈ l.flatMap cells, y.oneCell' = true := fun y hy => by
    obtain ⟨x, hx, hy⟩ := List.mem_flatMap.1 hy
    exact h1 x hx y hy
  by_cases hne : l = []
  · subst hne
    have r0 := run_append_own_at (P := P) w base t ty e i z size bytes ht hi hz hsize hby hzs hsz v n xs hown
    cases A with
    | none =>
      obtain ⟨v', w', hr, h2, h3, _, h5⟩ := r0 ⟨0, 0, none⟩ 0 cap [] (by simp) (by simp) (by simp) h63 hbytes hbase
      refine ⟨v', w', ?_, h2, h3, h5⟩
      have hq := append_nil_run (P := P) w base t ty e i size ht hi v n xs hown cap
      exact hq.trans hr
    | some ad =>
      obtain ⟨v', w', hr, h2, h3, _, h5⟩ := r0 ad 0 cap [] (by simp) (by simp) (by simp) h63 hbytes hbase
      exact ⟨v', w', hr, h2, h3, h5⟩
  · obtain ⟨b, off, rfl, _, hcl⟩ := hcell hne
    obtain ⟨v', w', hr, h2, h3, _, h5⟩ := run_append_own_at (P := P) w base t ty e i z size bytes ht hi hz hsize hby hzs hsz v n xs hown ⟨b, off, none⟩ l.length cap (l.flatMap cells) hl (fun j y hy => by
      obtain ⟨x, hx, hu⟩ := flat_get hc hsz l j y hy
      have := hcl _ x hx _ y hu
      have e1 : (⟨b, off, none⟩ : Addr).add j = ⟨b, off + j, none⟩ := by
        unfold Addr.add
        by_cases h : j = 0 <;> simp [h]
      have e2 : off + j / size * size + j % size = off + j := by
        have := Nat.div_add_mod j size
        rw [Nat.mul_comm] at this
        omega
      rw [e1, ← e2]
      exact this) ho1 h63 hbytes hbase
    exact ⟨v', w', hr, h2, h3, h5⟩
theorem gives_slice {o : Oper} {ρ : Operand → Value} {w : World} {K : Value → World → Prop} (t : TypeId) (x : Operand) (lo hi : Option Operand) (ho : o.op = .slice t x lo hi none) (u v : Value) (vlo vhi : Option Value) (hx : ρ x = u)
    (hlo : lo.map ρ = vlo) (hhi : hi.map ρ = vhi) (hr : (Instr.sliceAt t u vlo vhi none).run P w = .ok v w) (hK : K v w) : gives P K ((execOp ρ o).run P w) := by
  unfold execOp
  simp only [ho, hx, hlo, hhi, Option.map_none, Sem.run_bind, Sem.run_pure, hr, Result.andThen_ok]
  exact hK
theorem rows_from {α : Type} {cells : α → List Value} {sz : Nat} {t e : TypeId} {i : TypeInfo} (ht : P.underlying t = some (.slice e)) (hi : P.info? e = some i) (hs : i.size = sz) {A : Option Addr} {cap : Nat} {l : List α} {r : Nat} (hr : r ≤ l.length) (k : IntKind) :
    ∃ V, (∀ w, (Instr.sliceAt t (.slice A l.length cap) (some (.int k (r : Int))) none none).run P w = .ok V w) ∧ ∀ w, RowsAt w (.slice A l.length cap) sz cells l → RowsAt w V sz cells (l.drop r) := by
  refine ⟨.slice (if cap = r then A else A.map (·.add (r * sz))) (l.length - r) (cap - r), fun w => ?_, fun w h => ?_⟩
  · have h0 : (0 : Int) ≤ (r : Int) := by omega
    have h1 : (r : Int) ≤ (l.length : Int) := by omega
    simp [Instr.sliceAt, Instr.slice, run_underlying ht, Instr.sliceBounds, run_sliceBound, sizeOf, typeInfo, hi, hs, h0, hr]
  · obtain ⟨hk, A', cap', e1, h2, h3, h4⟩ := h
    cases e1
    refine ⟨by rw [List.length_drop]; omega, _, _, by rw [List.length_drop], by rw [List.length_drop]; omega, by omega, fun hne => ?_⟩
    have hlt : r < l.length := by
      rcases Nat.lt_or_ge r l.length with h | h
      · exact h
      · exact absurd (List.drop_eq_nil_of_le h) hne
    obtain ⟨b, off, rfl, hb, hc⟩ := h4 (fun e => by rw [e] at hlt; simp at hlt)
    refine ⟨b, off + r * sz, ?_, hb, fun m x hx j u hu => ?_⟩
    · rw [if_neg (by omega)]
      unfold Addr.add
      by_cases h : r * sz = 0 <;> simp [h]
    · rw [List.getElem?_drop] at hx
      have := hc _ x hx j u hu
      rw [Nat.add_mul] at this
      rw [show off + r * sz + m * sz + j = off + (r * sz + m * sz) + j by omega]
      exact this
theorem rows_upto {α : Type} {cells : α → List Value} {sz : Nat} {t e : TypeId} {i : TypeInfo} (ht : P.underlying t = some (.slice e)) (hi : P.info? e = some i) {A : Option Addr} {cap : Nat} {l : List α} {r : Nat} (hr : r ≤ l.length) (hcap : l.length ≤ cap) (k : IntKind) :
    ∃ V, (∀ w, (Instr.sliceAt t (.slice A l.length cap) none (some (.int k (r : Int))) none).run P w = .ok V w) ∧ ∀ w, RowsAt w (.slice A l.length cap) sz cells l → RowsAt w V sz cells (l.take r) := by
  refine ⟨.slice A r cap, fun w => ?_, fun w h => ?_⟩
  · have h0 : (0 : Int) ≤ (r : Int) := by omega
    have h1 : (r : Int) ≤ (cap : Int) := by omega
    have h2 : (if cap = 0 then A else A.map (·.add 0)) = A := by
      split
      · rfl
      · cases A <;> simp [Addr.add]
    simp [Instr.sliceAt, Instr.slice, run_underlying ht, Instr.sliceBounds, run_sliceBound, sizeOf, typeInfo, hi, h0, h1, h2]
  · obtain ⟨hk, A', cap', e1, h2, h3, h4⟩ := h
    cases e1
    have hlen : (l.take r).length = r := by rw [List.length_take]; omega
    refine ⟨by omega, A, cap, by rw [hlen], by omega, h3, fun hne => ?_⟩
    obtain ⟨b, off, rfl, hb, hc⟩ := h4 (fun e => by rw [e] at hne; simp at hne)
    refine ⟨b, off, rfl, hb, fun m x hx j u hu => ?_⟩
    rw [List.getElem?_take] at hx
    split at hx
    · exact hc m x hx j u hu
    · cases hx
end

end Go.Proofs.Ytojbdmdjepgpjaa

namespace Go.Proofs.Ytojbdmdjepgpjaa
open Go.RowKit

theorem err_rgs {L : Ld} {l : List Wl} (hl : l.length ≤ 6) (hb : l.all rgB = true) (he : errI L = 0) : errI ⟨L.st, l, L.cs, L.sn⟩ = 0 := by
  obtain ⟨h1, h2⟩ := err_parts he
  refine err_of ?_ ?_
  · simp only [exB, Bool.or_eq_false_iff, decide_eq_false_iff_not] at h1 ⊢
    exact ⟨⟨⟨⟨h1.1.1.1.1, by omega⟩, h1.1.1.2⟩, h1.1.2⟩, h1.2⟩
  · simp only [validB, Bool.and_eq_true] at h2 ⊢
    exact ⟨⟨⟨h2.1.1.1, hb⟩, h2.1.2⟩, h2.2⟩
theorem rgs_of {L : Ld} (he : errI L = 0) : L.rg.all rgB = true := by
  have h2 := (err_parts he).2
  simp only [validB, Bool.and_eq_true] at h2
  exact h2.1.1.2
theorem all_set {α : Type} {p : α → Bool} {l : List α} {k : Nat} {x : α} (hl : l.all p = true) (hx : p x = true) : (l.set k x).all p = true := by
  rw [List.all_eq_true] at hl ⊢
  intro y hy
  rcases List.mem_or_eq_of_mem_set hy with h | rfl
  · exact hl y h
  · exact hx
theorem rg_swap {x : Wl} (h : rgB x = true) : rgB (swapW x) = true := by
  simp only [rgB, wlB, swapW, Bool.and_eq_true, inB_iff, Bool.not_eq_true', Bool.and_eq_false_iff, beq_eq_false_iff_ne, beq_iff_eq, decide_eq_true_eq] at h ⊢
  obtain ⟨⟨⟨⟨⟨⟨⟨⟨a, b⟩, c⟩, d⟩, e⟩, f⟩, g⟩, i⟩, j⟩ := h
  exact ⟨⟨⟨⟨⟨⟨⟨⟨c, d⟩, a⟩, b⟩, e.imp Ne.symm Ne.symm⟩, f⟩, g⟩, decide_eq_true i⟩, j⟩
theorem err_swap {L : Ld} {k : Nat} {x : Wl} (hk : L.rg[k]? = some x) (hg : L.rg.length ≤ 6) (he : errI L = 0) : errI (setRg L k (swapW x)) = 0 :=
  err_rgs (by simpa using hg) (all_set (rgs_of he) (rg_swap (List.all_eq_true.1 (rgs_of he) x (List.mem_of_getElem? hk)))) he

/-- A place between two others. -/
theorem part_bd {a q k n : Int} (h1 : 0 < k) (h2 : k < n) (ha : 0 ≤ a ∧ a ≤ 100) (hb : 0 ≤ a + n * q ∧ a + n * q ≤ 100) : 0 ≤ a + k * q ∧ a + k * q ≤ 100 := by
  rcases Int.le_total 0 q with h | h
  · have e1 := Int.mul_nonneg (Int.le_of_lt h1) h
    have e2 := Int.mul_nonneg (show 0 ≤ n - k by omega) h
    rw [Int.sub_mul] at e2
    omega
  · have e1 := Int.mul_nonneg (Int.le_of_lt h1) (show 0 ≤ -q by omega)
    have e2 := Int.mul_nonneg (show 0 ≤ n - k by omega) (show 0 ≤ -q by omega)
    rw [Int.mul_neg] at e1
    rw [Int.mul_neg, Int.sub_mul] at e2
    omega
theorem mul_ne {k q : Int} (hk : 0 < k) (hq : q ≠ 0) : k * q ≠ 0 := Int.mul_ne_zero (by omega) hq
section
variable {x1 y1 q p k n b t : Int}
theorem rg_first (h1 : 0 < k) (h2 : k < n) (h : rgB ⟨x1, y1, x1 + n * q, y1 + n * p, b, t⟩ = true) : rgB ⟨x1, y1, x1 + k * q, y1 + k * p, b, t⟩ = true := by
  simp only [rgB, wlB, Bool.and_eq_true, inB_iff, Bool.not_eq_true', Bool.and_eq_false_iff, beq_eq_false_iff_ne, beq_iff_eq, decide_eq_true_eq] at h ⊢
  obtain ⟨⟨⟨⟨⟨⟨⟨⟨a, b⟩, c⟩, d⟩, e⟩, f⟩, g⟩, i⟩, j⟩ := h
  refine ⟨⟨⟨⟨⟨⟨⟨⟨a, b⟩, part_bd h1 h2 a c⟩, part_bd h1 h2 b d⟩, ?_⟩, f⟩, g⟩, i⟩, j⟩
  rcases e with e | e
  · have hq : q ≠ 0 := fun z => by rw [z, Int.mul_zero] at e; omega
    have := mul_ne h1 hq
    exact .inl (by omega)
  · have hq : p ≠ 0 := fun z => by rw [z, Int.mul_zero] at e; omega
    have := mul_ne h1 hq
    exact .inr (by omega)
theorem rg_second (h1 : 0 < k) (h2 : k < n) (h : rgB ⟨x1, y1, x1 + n * q, y1 + n * p, b, t⟩ = true) : rgB ⟨x1 + k * q, y1 + k * p, x1 + n * q, y1 + n * p, 0, t⟩ = true := by
  simp only [rgB, wlB, Bool.and_eq_true, inB_iff, Bool.not_eq_true', Bool.and_eq_false_iff, beq_eq_false_iff_ne, beq_iff_eq, decide_eq_true_eq] at h ⊢
  obtain ⟨⟨⟨⟨⟨⟨⟨⟨a, b⟩, c⟩, d⟩, e⟩, f⟩, g⟩, i⟩, j⟩ := h
  refine ⟨⟨⟨⟨⟨⟨⟨⟨part_bd h1 h2 a c, part_bd h1 h2 b d⟩, c⟩, d⟩, ?_⟩, by omega⟩, g⟩, by omega⟩, trivial⟩
  have hnk : 0 < n - k := by omega
  rcases e with e | e
  · have hq : q ≠ 0 := fun z => by rw [z, Int.mul_zero] at e; omega
    have := mul_ne hnk hq
    rw [Int.sub_mul] at this
    exact .inl (by omega)
  · have hq : p ≠ 0 := fun z => by rw [z, Int.mul_zero] at e; omega
    have := mul_ne hnk hq
    rw [Int.sub_mul] at this
    exact .inr (by omega)
theorem rg_base {x : Wl} (h : rgB x = true) : x.b = 0 := by
  simp only [rgB, Bool.and_eq_true, beq_iff_eq] at h
  exact h.2
end
/-- One ridge is made shorter, and one more is laid. -/
def divLd (L : Ld) (r : Nat) (x y : Wl) : Ld := ⟨L.st, L.rg.set r x ++ [y], L.cs, L.sn⟩
section
variable {L : Ld} {r i j : Nat} {x y z : Wl}
theorem any_divided {α : Type} {p : α → Bool} {l : List α} {r : Nat} {x y z : α} (hz : l[r]? = some z) (h : p z = (p x || p y)) : (l.set r x ++ [y]).any p = l.any p := by
  have hr : r < l.length := (List.getElem?_eq_some_iff.1 hz).1
  have hzz : l[r] = z := (List.getElem?_eq_some_iff.1 hz).2
  have e : l = l.take r ++ z :: l.drop (r + 1) := by
    rw [← hzz, List.getElem_cons_drop, List.take_append_drop]
  rw [List.set_eq_take_append_cons_drop, if_pos hr]
  have e2 : l.any p = (l.take r ++ z :: l.drop (r + 1)).any p := by rw [← e]
  rw [e2]
  simp only [List.any_append, List.any_cons, List.any_nil, Bool.or_false, h]
  cases (l.take r).any p <;> cases p x <;> cases p y <;> cases (l.drop (r + 1)).any p <;> rfl
theorem rise_divided (hz : L.rg[r]? = some z) (heL : errI L = 0) (heM : errI (divLd L r x y) = 0) (hi : i < L.st.length) (hj : j < L.st.length) (hij : i ≠ j) (hc0 : 0 < L.cs.length) (hs0 : 0 < L.sn.length)
    (h : ∀ s t, blocksW s t z = (blocksW s t x || blocksW s t y)) : riseI (divLd L r x y) i j = riseI L i j := by
  have h1 := open_zero (i := i) (j := j) (k := 0) (h := 0) heL hi hj hc0 hs0 hij
  have h2 := open_zero (L := divLd L r x y) (i := i) (j := j) (k := 0) (h := 0) heM hi hj hc0 hs0 hij
  have hc : clearB (divLd L r x y) (stAt L i) (stAt L j) = clearB L (stAt L i) (stAt L j) := by
    funext u
    unfold clearB
    show (!((L.rg.set r x ++ [y]).any _)) = _
    rw [any_divided hz (h _ _)]
  unfold riseI
  rw [if_neg (by simpa using h2), if_neg (by simpa using h1)]
  show (match (List.range (1000 - (stAt L i).z + 1).toNat).find? (clearB (divLd L r x y) (stAt L i) (stAt L j)) with | some n => ((n : Int), (0 : Int)) | none => (0, 9)) = _
  rw [hc]
  cases (List.range (1000 - (stAt L i).z + 1).toNat).find? (clearB L (stAt L i) (stAt L j)) <;> rfl
theorem which_at {α : Type} {p : α → Bool} {l : List α} {r : Nat} {z : α} (hz : l[r]? = some z) : withinB [(r : Int)] (whichB p l) = p z := by
  have hr : r < l.length := (List.getElem?_eq_some_iff.1 hz).1
  have := within_one (t := r) (n := l.length) (p := fun i => (l[i]?.map p).getD false) hr
  rw [hz] at this
  exact this
theorem which_div1 (hz : L.rg[r]? = some z) : withinB [(r : Int)] (ridgesI (divLd L r x y) i j) = blocksW (stAt L i) (stAt L j) x := by
  have hr : r < L.rg.length := (List.getElem?_eq_some_iff.1 hz).1
  exact which_at (l := L.rg.set r x ++ [y]) (by rw [List.getElem?_append_left (by simpa using hr)]; simp [hr])
theorem which_div2 : withinB [(L.rg.length : Int)] (ridgesI (divLd L r x y) i j) = blocksW (stAt L i) (stAt L j) y :=
  which_at (l := L.rg.set r x ++ [y]) (by rw [List.getElem?_append_right (by simp)]; simp)
theorem err_div (hg : L.rg.length < 6) (hx : rgB x = true) (hy : rgB y = true) (he : errI L = 0) : errI (divLd L r x y) = 0 :=
  err_rgs (by simp; omega) (by rw [List.all_append, all_set (rgs_of he) hx]; simp [hy]) he
end

section
variable {e1 e2 e3 e4 e5 n0 : Nat} {L : Ld} {w : World} {u1 u2 u3 u4 : Value} {c : List (Value × List Cl)}
/-- The ridge i of a land in memory of its own is put anew in one of its fields. -/
theorem Cop.putRg {b off m cap i j : Nat} {s s' : Wl} {u : Value} (h : Cop e1 e2 e3 e4 e5 n0 L w u1 (.slice (some ⟨b, off, none⟩) m cap) u3 u4 c) (hs : L.rg[i]? = some s) (hj : j < 6) (hu : s'.cells = s.cells.set j u)
    (d1 : e1 ≠ e2) (d3 : e3 ≠ e2) (d4 : e4 ≠ e2) (d5 : e5 ≠ e2) :
    Cop e1 e2 e3 e4 e5 n0 (setRg L i s') (w.setCell ⟨b, i * 6 + j, none⟩ u) u1 (.slice (some ⟨b, off, none⟩) m cap) u3 u4 c := by
  obtain ⟨h0, hm, ho⟩ := own_put (i := i * 6 + j) (u := u) h.o2
  have hg := grownBy_set w b (i * 6 + j) u
  have hg' : w.grownBy (w.setCell ⟨b, i * 6 + j, none⟩ u) (Value.ownBlock (.slice (some ⟨b, off, none⟩) m cap)) := hg
  refine ⟨own_other h.o1 h.o2 d1 hg', ?_, own_other h.o3 h.o2 d3 hg', own_other h.o4 h.o2 d4 hg', h.ec, fun x hx => own_other (h.each x hx) h.o2 d5 hg', h.apart⟩
  rw [flat_set (cells := Wl.cells) (sz := 6) (fun _ => rfl) L.rg i j s s' u hs hj hu] at ho
  simpa [setRg] using ho
theorem Cop.rgCell {b m cap i j : Nat} {s : Wl} {u : Value} (h : Cop e1 e2 e3 e4 e5 n0 L w u1 (.slice (some ⟨b, 0, none⟩) m cap) u3 u4 c) (hs : L.rg[i]? = some s) (hl : L.rg.length ≤ 1000) (hu : s.cells[j]? = some u) :
    w.cell? ⟨b, i * 6 + j, none⟩ = some u := by
  have := (RowsAt.of_ownM (cells := Wl.cells) (fun _ => rfl) h.o2 rfl hl).cellAt hs (j := j) hu
  simpa using this
theorem set_set {L : Ld} {i : Nat} {s t : Wl} : setRg (setRg L i s) i t = setRg L i t := by
  unfold setRg
  rw [List.set_set]
theorem set_get {L : Ld} {i : Nat} {s t : Wl} (hs : L.rg[i]? = some s) : (setRg L i t).rg[i]? = some t := by
  have hr : i < L.rg.length := (List.getElem?_eq_some_iff.1 hs).1
  simp [setRg, hr]
end

end Go.Proofs.Ytojbdmdjepgpjaa

namespace Go.Proofs.Ytojbdmdjepgpjaa
open Go.RowKit

set_option maxRecDepth 100000 in
set_option maxHeartbeats 2000000 in
theorem moved_any (x : Wl) (e n : Int) (q : Bool) (w : World) (h1 : 0 ≤ x.x1 ∧ x.x1 ≤ 100) (h2 : 0 ≤ x.y1 ∧ x.y1 ≤ 100) (h3 : 0 ≤ x.x2 ∧ x.x2 ≤ 100) (h4 : 0 ≤ x.y2 ∧ x.y2 ≤ 100) (he : -20 ≤ e ∧ e ≤ 20) (hn : -20 ≤ n ∧ n ≤ 20) :
    Calls Try.prog 41 #[.agg #[iv x.x1, iv x.y1, iv x.x2, iv x.y2, iv x.b, iv x.t], .int .i64 e, .int .i64 n, .bool q] w fun r w' =>
      r = .returned (.agg #[iv (mvWl e n q x).x1, iv (mvWl e n q x).y1, iv (mvWl e n q x).x2, iv (mvWl e n q x).y2, iv (mvWl e n q x).b, iv (mvWl e n q x).t]) ∧ Below w.heap.size w w' := by
  obtain ⟨a1, a2⟩ := h1
  obtain ⟨b1, b2⟩ := h2
  obtain ⟨c1, c2⟩ := h3
  obtain ⟨d1, d2⟩ := h4
  obtain ⟨e1, e2⟩ := he
  obtain ⟨n1, n2⟩ := hn
  have k1 : IntKind.i64.wrap (x.x1 + e) = x.x1 + e := wrapK_in _ 2000 (by omega) (by omega)
  have k2 : IntKind.i64.wrap (x.y1 + n) = x.y1 + n := wrapK_in _ 2000 (by omega) (by omega)
  have k3 : IntKind.i64.wrap (x.x2 + e) = x.x2 + e := wrapK_in _ 2000 (by omega) (by omega)
  have k4 : IntKind.i64.wrap (x.y2 + n) = x.y2 + n := wrapK_in _ 2000 (by omega) (by omega)
  cases q with
  | false =>
    go_enter Try.func41, Try.ntmps41
    go_wp2_with fail
    exact bodyPost_ret (v := .agg #[iv (x.x1 + e), iv (x.y1 + n), iv (x.x2 + e), iv (x.y2 + n), iv x.b, iv x.t]) (by simp [results, Try.results41, go_sem]) rfl ⟨rfl, up_alloc (up_alloc up0 _) _⟩
  | true =>
    go_enter Try.func41, Try.ntmps41
    go_wp2_with fail
    exact bodyPost_ret (v := .agg #[iv (x.y1 + n), iv (x.x1 + e), iv (x.y2 + n), iv (x.x2 + e), iv x.b, iv x.t]) (by simp [results, Try.results41, go_sem]) rfl ⟨rfl, up_alloc (up_alloc up0 _) _⟩

/-- The first k of a list are changed. -/
def upd {α : Type} (f : α → α) (k : Nat) (l : List α) : List α := (l.take k).map f ++ l.drop k
section
variable {α : Type} {f : α → α} {k : Nat} {l : List α} {x : α}
theorem upd_zero : upd f 0 l = l := by simp [upd]
theorem upd_all : upd f l.length l = l.map f := by simp [upd]
theorem upd_len : (upd f k l).length = l.length := by
  unfold upd
  rw [List.length_append, List.length_map, List.length_take, List.length_drop]
  omega
theorem upd_at (hx : l[k]? = some x) : (upd f k l)[k]? = some x := by
  have hk : k < l.length := (List.getElem?_eq_some_iff.1 hx).1
  unfold upd
  rw [List.getElem?_append_right (by simp; omega)]
  simp only [List.length_map, List.length_take, Nat.min_eq_left (Nat.le_of_lt hk), Nat.sub_self, List.getElem?_drop, Nat.add_zero]
  exact hx
theorem upd_set (hx : l[k]? = some x) : (upd f k l).set k (f x) = upd f (k + 1) l := by
  have hk : k < l.length := (List.getElem?_eq_some_iff.1 hx).1
  unfold upd
  rw [List.set_append_right _ _ (by simp; omega)]
  have e1 : k - ((l.take k).map f).length = 0 := by simp; omega
  have e2 : l.drop k = x :: l.drop (k + 1) := by
    rw [← (List.getElem?_eq_some_iff.1 hx).2, List.getElem_cons_drop]
  have e3 : l.take (k + 1) = l.take k ++ [x] := by
    rw [List.take_add_one, hx]
    rfl
  rw [e1, e2, e3, List.set_cons_zero, List.map_append, List.append_assoc]
  rfl
end
section
variable {e1 e2 e3 e4 e5 n0 : Nat} {L : Ld} {w : World} {u1 u2 u3 u4 : Value} {c : List (Value × List Cl)}
/-- The sun i of a land in memory of its own is put anew in one of its fields. -/
theorem Cop.putSn {b off m cap i j : Nat} {s s' : Sn} {u : Value} (h : Cop e1 e2 e3 e4 e5 n0 L w u1 u2 u3 (.slice (some ⟨b, off, none⟩) m cap) c) (hs : L.sn[i]? = some s) (hj : j < 3) (hu : s'.cells = s.cells.set j u)
    (d1 : e1 ≠ e4) (d2 : e2 ≠ e4) (d3 : e3 ≠ e4) (d5 : e5 ≠ e4) :
    Cop e1 e2 e3 e4 e5 n0 ⟨L.st, L.rg, L.cs, L.sn.set i s'⟩ (w.setCell ⟨b, i * 3 + j, none⟩ u) u1 u2 u3 (.slice (some ⟨b, off, none⟩) m cap) c := by
  obtain ⟨h0, hm, ho⟩ := own_put (i := i * 3 + j) (u := u) h.o4
  have hg := grownBy_set w b (i * 3 + j) u
  have hg' : w.grownBy (w.setCell ⟨b, i * 3 + j, none⟩ u) (Value.ownBlock (.slice (some ⟨b, off, none⟩) m cap)) := hg
  refine ⟨own_other h.o1 h.o4 d1 hg', own_other h.o2 h.o4 d2 hg', own_other h.o3 h.o4 d3 hg', ?_, h.ec, fun x hx => own_other (h.each x hx) h.o4 d5 hg', h.apart⟩
  rw [flat_set (cells := Sn.cells) (sz := 3) (fun _ => rfl) L.sn i j s s' u hs hj hu] at ho
  simpa using ho
/-- The station i is put anew in one of its fields. -/
theorem Cop.putSt2 {b off m cap i j : Nat} {s s' : St} {u : Value} (h : Cop e1 e2 e3 e4 e5 n0 L w (.slice (some ⟨b, off, none⟩) m cap) u2 u3 u4 c) (hs : L.st[i]? = some s) (hj : j < 4) (hu : s'.cells = s.cells.set j u)
    (d2 : e2 ≠ e1) (d3 : e3 ≠ e1) (d4 : e4 ≠ e1) (d5 : e5 ≠ e1) :
    Cop e1 e2 e3 e4 e5 n0 ⟨L.st.set i s', L.rg, L.cs, L.sn⟩ (w.setCell ⟨b, i * 4 + j, none⟩ u) (.slice (some ⟨b, off, none⟩) m cap) u2 u3 u4 c := (h.putSt hs hj hu d2 d3 d4 d5).2
/-- The cloud i of the case k is put anew in one of its fields. -/
theorem Cop.putCl {b off m cap k i j : Nat} {zs : List Cl} {s s' : Cl} {u : Value} (h : Cop e1 e2 e3 e4 e5 n0 L w u1 u2 u3 u4 c) (hk : c[k]? = some (.slice (some ⟨b, off, none⟩) m cap, zs)) (hs : zs[i]? = some s) (hj : j < 8) (hu : s'.cells = s.cells.set j u)
    (d1 : e1 ≠ e5) (d2 : e2 ≠ e5) (d3 : e3 ≠ e5) (d4 : e4 ≠ e5) :
    Cop e1 e2 e3 e4 e5 n0 (setCs L k (zs.set i s')) (w.setCell ⟨b, i * 8 + j, none⟩ u) u1 u2 u3 u4 (c.set k (.slice (some ⟨b, off, none⟩) m cap, zs.set i s')) := by
  have hz := h.each _ (List.mem_of_getElem? hk)
  simp only at hz
  obtain ⟨h0, hm, ho⟩ := own_put (i := i * 8 + j) (u := u) hz
  have hg := grownBy_set w b (i * 8 + j) u
  have hg' : w.grownBy (w.setCell ⟨b, i * 8 + j, none⟩ u) (Value.ownBlock (.slice (some ⟨b, off, none⟩) m cap)) := hg
  rw [flat_set (cells := Cl.cells) (sz := 8) (fun _ => rfl) zs i j s s' u hs hj hu] at ho
  have hkl : k < c.length := (List.getElem?_eq_some_iff.1 hk).1
  have hkk : c[k] = (.slice (some ⟨b, off, none⟩) m cap, zs) := (List.getElem?_eq_some_iff.1 hk).2
  have hfst : (c.set k (.slice (some ⟨b, off, none⟩) m cap, zs.set i s')).map (·.1) = c.map (·.1) := by
    rw [List.map_set]
    refine List.ext_getElem? fun q => ?_
    rw [List.getElem?_set]
    split
    · rename_i e
      subst e
      simp [hkl, hkk]
    · rfl
  refine ⟨own_other h.o1 hz d1 hg', own_other h.o2 hz d2 hg', ?_, own_other h.o4 hz d4 hg', ?_, fun x hx => ?_, ?_⟩
  · rw [hfst]
    have := own_other h.o3 hz d3 hg'
    simpa [setCs] using this
  · rw [List.map_set, h.ec]
    rfl
  · obtain ⟨q, hq, rfl⟩ := List.getElem_of_mem hx
    rw [List.getElem_set]
    split
    · simpa using ho
    · rename_i hne
      rw [List.length_set] at hq
      refine (h.each c[q] (List.getElem_mem hq)).kept hg' ?_
      rcases Nat.lt_or_gt_of_ne hne with hlt | hgt
      · have := List.pairwise_iff_getElem.1 h.apart k q hkl hq hlt
        rw [hkk] at this
        rcases this with h1 | h1
        · cases h1
        · cases ho2 : c[q].1.ownBlock with
          | none => exact .inl rfl
          | some g => exact .inr (fun e => h1 (by rw [ho2, e]))
      · have := List.pairwise_iff_getElem.1 h.apart q k hq hkl hgt
        rw [hkk] at this
        exact this
  · have h1 : (c.map Prod.fst).Pairwise (fun a b : Value => a.ownBlock = none ∨ a.ownBlock ≠ b.ownBlock) := List.pairwise_map.2 h.apart
    have h2 : (c.set k (.slice (some ⟨b, off, none⟩) m cap, zs.set i s')).map Prod.fst = c.map Prod.fst := hfst
    rw [← h2] at h1
    exact List.pairwise_map.1 h1
/-- The ridge i is put anew, whole. -/
theorem Cop.putRg6 {b off m cap i : Nat} {s x : Wl} (h : Cop e1 e2 e3 e4 e5 n0 L w u1 (.slice (some ⟨b, off, none⟩) m cap) u3 u4 c) (hs : L.rg[i]? = some s) (d1 : e1 ≠ e2) (d3 : e3 ≠ e2) (d4 : e4 ≠ e2) (d5 : e5 ≠ e2) :
    Cop e1 e2 e3 e4 e5 n0 (setRg L i x) ((((((w.setCell ⟨b, i * 6, none⟩ (iv x.x1)).setCell ⟨b, i * 6 + 1, none⟩ (iv x.y1)).setCell ⟨b, i * 6 + 2, none⟩ (iv x.x2)).setCell ⟨b, i * 6 + 3, none⟩ (iv x.y2)).setCell ⟨b, i * 6 + 4, none⟩ (iv x.b)).setCell ⟨b, i * 6 + 5, none⟩ (iv x.t)) u1 (.slice (some ⟨b, off, none⟩) m cap) u3 u4 c := by
  have a1 := h.putRg (s' := ⟨x.x1, s.y1, s.x2, s.y2, s.b, s.t⟩) (j := 0) (u := iv x.x1) hs (by decide) rfl d1 d3 d4 d5
  have a2 := a1.putRg (s' := ⟨x.x1, x.y1, s.x2, s.y2, s.b, s.t⟩) (j := 1) (u := iv x.y1) (set_get hs) (by decide) rfl d1 d3 d4 d5
  rw [set_set] at a2
  have a3 := a2.putRg (s' := ⟨x.x1, x.y1, x.x2, s.y2, s.b, s.t⟩) (j := 2) (u := iv x.x2) (set_get hs) (by decide) rfl d1 d3 d4 d5
  rw [set_set] at a3
  have a4 := a3.putRg (s' := ⟨x.x1, x.y1, x.x2, x.y2, s.b, s.t⟩) (j := 3) (u := iv x.y2) (set_get hs) (by decide) rfl d1 d3 d4 d5
  rw [set_set] at a4
  have a5 := a4.putRg (s' := ⟨x.x1, x.y1, x.x2, x.y2, x.b, s.t⟩) (j := 4) (u := iv x.b) (set_get hs) (by decide) rfl d1 d3 d4 d5
  rw [set_set] at a5
  have a6 := a5.putRg (s' := x) (j := 5) (u := iv x.t) (set_get hs) (by decide) rfl d1 d3 d4 d5
  rw [set_set] at a6
  exact a6
theorem setCs_set {k : Nat} {l l' : List Cl} : setCs (setCs L k l) k l' = setCs L k l' := by
  unfold setCs
  rw [List.set_set]
/-- The wall of the cloud i of the case k is put anew, whole. -/
theorem Cop.putCl6 {b off m cap k i : Nat} {zs : List Cl} {s : Cl} {x : Wl} (h : Cop e1 e2 e3 e4 e5 n0 L w u1 u2 u3 u4 c) (hk : c[k]? = some (.slice (some ⟨b, off, none⟩) m cap, zs)) (hs : zs[i]? = some s) (d1 : e1 ≠ e5) (d2 : e2 ≠ e5) (d3 : e3 ≠ e5) (d4 : e4 ≠ e5) :
    Cop e1 e2 e3 e4 e5 n0 (setCs L k (zs.set i ⟨x, s.f, s.t⟩)) ((((((w.setCell ⟨b, i * 8, none⟩ (iv x.x1)).setCell ⟨b, i * 8 + 1, none⟩ (iv x.y1)).setCell ⟨b, i * 8 + 2, none⟩ (iv x.x2)).setCell ⟨b, i * 8 + 3, none⟩ (iv x.y2)).setCell ⟨b, i * 8 + 4, none⟩ (iv x.b)).setCell ⟨b, i * 8 + 5, none⟩ (iv x.t)) u1 u2 u3 u4 (c.set k (.slice (some ⟨b, off, none⟩) m cap, zs.set i ⟨x, s.f, s.t⟩)) := by
  have hkl : k < c.length := (List.getElem?_eq_some_iff.1 hk).1
  have hil : i < zs.length := (List.getElem?_eq_some_iff.1 hs).1
  have ck : ∀ z : List Cl, (c.set k (.slice (some ⟨b, off, none⟩) m cap, z))[k]? = some (.slice (some ⟨b, off, none⟩) m cap, z) := fun z => by simp [hkl]
  have zk : ∀ z : Cl, (zs.set i z)[i]? = some z := fun z => by simp [hil]
  have a1 := h.putCl (s' := ⟨⟨x.x1, s.w.y1, s.w.x2, s.w.y2, s.w.b, s.w.t⟩, s.f, s.t⟩) (j := 0) (u := iv x.x1) hk hs (by decide) rfl d1 d2 d3 d4
  have a2 := a1.putCl (s' := ⟨⟨x.x1, x.y1, s.w.x2, s.w.y2, s.w.b, s.w.t⟩, s.f, s.t⟩) (j := 1) (u := iv x.y1) (ck _) (zk _) (by decide) rfl d1 d2 d3 d4
  rw [List.set_set, List.set_set, setCs_set] at a2
  have a3 := a2.putCl (s' := ⟨⟨x.x1, x.y1, x.x2, s.w.y2, s.w.b, s.w.t⟩, s.f, s.t⟩) (j := 2) (u := iv x.x2) (ck _) (zk _) (by decide) rfl d1 d2 d3 d4
  rw [List.set_set, List.set_set, setCs_set] at a3
  have a4 := a3.putCl (s' := ⟨⟨x.x1, x.y1, x.x2, x.y2, s.w.b, s.w.t⟩, s.f, s.t⟩) (j := 3) (u := iv x.y2) (ck _) (zk _) (by decide) rfl d1 d2 d3 d4
  rw [List.set_set, List.set_set, setCs_set] at a4
  have a5 := a4.putCl (s' := ⟨⟨x.x1, x.y1, x.x2, x.y2, x.b, s.w.t⟩, s.f, s.t⟩) (j := 4) (u := iv x.b) (ck _) (zk _) (by decide) rfl d1 d2 d3 d4
  rw [List.set_set, List.set_set, setCs_set] at a5
  have a6 := a5.putCl (s' := ⟨x, s.f, s.t⟩) (j := 5) (u := iv x.t) (ck _) (zk _) (by decide) rfl d1 d2 d3 d4
  rw [List.set_set, List.set_set, setCs_set] at a6
  exact a6
end

end Go.Proofs.Ytojbdmdjepgpjaa

namespace Go.Proofs.Ytojbdmdjepgpjaa
open Go.RowKit

theorem first_put {l : Array Oper} {i j s : Nat} {a : Addr} {u : Value} {r : List (Nat × Addr × Value)} (hno : ∀ (m : Nat) (x : Nat × Addr × Value), m < j → ((s, a, u) :: r)[m]? = some x → Region.waitsFor .any l x.1 i = false) (h : Region.waitsFor .any l s i = true) : j = 0 := by
  rcases j with _ | j
  · rfl
  · have := hno 0 _ (by omega) rfl
    rw [h] at this
    cases this
theorem second_put {l : Array Oper} {i j s t : Nat} {a b : Addr} {u v : Value} (hj : j ≤ [(s, a, u), (t, b, v)].length) (hno : ∀ (m : Nat) (x : Nat × Addr × Value), m < j → [(s, a, u), (t, b, v)][m]? = some x → Region.waitsFor .any l x.1 i = false) (h : Region.waitsFor .any l t i = true) : j = 0 ∨ j = 1 := by
  rcases j with _ | _ | j
  · exact .inl rfl
  · exact .inr rfl
  · have := hno 1 _ (by omega) rfl
    rw [h] at this
    cases this
theorem sts_of {L : Ld} (he : errI L = 0) : L.st.all stB = true := by
  have h2 := (err_parts he).2
  simp only [validB, Bool.and_eq_true] at h2
  exact h2.1.1.1.1.2
theorem st_bd {s : St} (h : stB s = true) : (0 ≤ s.x ∧ s.x ≤ 100) ∧ 0 ≤ s.y ∧ s.y ≤ 100 := by
  simp only [stB, Bool.and_eq_true, inB_iff] at h
  exact ⟨h.1.1.1, h.1.1.2⟩
theorem rg_wl {x : Wl} (h : rgB x = true) : wlB x = true := by
  simp only [rgB, Bool.and_eq_true] at h
  exact h.1
theorem wl_bd {x : Wl} (h : wlB x = true) : (0 ≤ x.x1 ∧ x.x1 ≤ 100) ∧ (0 ≤ x.y1 ∧ x.y1 ≤ 100) ∧ (0 ≤ x.x2 ∧ x.x2 ≤ 100) ∧ 0 ≤ x.y2 ∧ x.y2 ≤ 100 := by
  simp only [wlB, Bool.and_eq_true, inB_iff] at h
  exact ⟨h.1.1.1.1.1.1.1, h.1.1.1.1.1.1.2, h.1.1.1.1.1.2, h.1.1.1.1.2⟩
theorem cls_of {L : Ld} (he : errI L = 0) : L.cs.all (fun x => x.all (clB ((L.sn.length : Int) - 1))) = true := by
  have h2 := (err_parts he).2
  simp only [validB, Bool.and_eq_true] at h2
  exact h2.1.2
theorem cl_wl {h : Int} {x : Cl} (hx : clB h x = true) : wlB x.w = true := by
  simp only [clB, Bool.and_eq_true] at hx
  exact hx.1.1.1
theorem set_self {α : Type} {l : List α} {k : Nat} {x : α} (h : l[k]? = some x) : l.set k x = l := by
  refine List.ext_getElem? fun q => ?_
  rw [List.getElem?_set]
  split
  · rename_i e
    subst e
    rw [h]
    simp [(List.getElem?_eq_some_iff.1 h).1]
  · rfl
theorem clCell {e1 e2 e3 e4 e5 n0 b m cap k i j : Nat} {L : Ld} {w : World} {u1 u2 u3 u4 : Value} {c : List (Value × List Cl)} {zs : List Cl} {s : Cl} {u : Value} (h : Cop e1 e2 e3 e4 e5 n0 L w u1 u2 u3 u4 c) (hk : c[k]? = some (.slice (some ⟨b, 0, none⟩) m cap, zs)) (hs : zs[i]? = some s) (hl : zs.length ≤ 1000) (hu : s.cells[j]? = some u) :
    w.cell? ⟨b, i * 8 + j, none⟩ = some u := by
  have ho := h.each _ (List.mem_of_getElem? hk)
  simp only at ho
  have := (RowsAt.of_ownM (cells := Cl.cells) (fun _ => rfl) ho rfl hl).cellAt hs (j := j) hu
  simpa using this
theorem below_puts {N : Nat} {S : List (Nat × Addr × Value)} {a b w : World} {j : Nat} (h : Below N a b) (hS : ∀ x ∈ S, N ≤ x.2.1.block) (hw : Below b.heap.size (putsTo (S.take j) b) w) (hN : N ≤ b.heap.size) : Below N a w := by
  have key : ∀ (T : List (Nat × Addr × Value)) (v : World), (∀ x ∈ T, N ≤ x.2.1.block) → Below N a v → Below N a (putsTo T v) := by
    intro T
    induction T with
    | nil => intro v _ hv; exact hv
    | cons y r ih =>
      intro v hT hv
      obtain ⟨i, p, u⟩ := y
      exact ih _ (fun x hx => hT x (List.mem_cons_of_mem _ hx)) (hv.setCell (hT _ (List.mem_cons_self ..)) u)
  exact (key _ b (fun x hx => hS x (List.mem_of_mem_take hx)) h).trans (hw.mono hN)
theorem snCell {e1 e2 e3 e4 e5 n0 b m cap i j : Nat} {L : Ld} {w : World} {u1 u2 u3 : Value} {c : List (Value × List Cl)} {s : Sn} {u : Value} (h : Cop e1 e2 e3 e4 e5 n0 L w u1 u2 u3 (.slice (some ⟨b, 0, none⟩) m cap) c) (hs : L.sn[i]? = some s) (hl : L.sn.length ≤ 1000) (hu : s.cells[j]? = some u) :
    w.cell? ⟨b, i * 3 + j, none⟩ = some u := by
  have := (RowsAt.of_ownM (cells := Sn.cells) (fun _ => rfl) h.o4 rfl hl).cellAt hs (j := j) hu
  simpa using this
theorem upd_full {α : Type} {f : α → α} {k : Nat} {l : List α} (h : l.length = k) : upd f k l = l.map f := by
  subst h
  exact upd_all
theorem stCell {e1 e2 e3 e4 e5 n0 b m cap i j : Nat} {L : Ld} {w : World} {u2 u3 u4 : Value} {c : List (Value × List Cl)} {s : St} {u : Value} (h : Cop e1 e2 e3 e4 e5 n0 L w (.slice (some ⟨b, 0, none⟩) m cap) u2 u3 u4 c) (hs : L.st[i]? = some s) (hl : L.st.length ≤ 1000) (hu : s.cells[j]? = some u) :
    w.cell? ⟨b, i * 4 + j, none⟩ = some u := by
  have := (RowsAt.of_ownM (cells := St.cells) (fun _ => rfl) h.o1 rfl hl).cellAt hs (j := j) hu
  simpa using this




set_option maxRecDepth 100000 in
set_option maxHeartbeats 12000000 in
theorem moved_false (v1 v2 v3 v4 : Value) (L : Ld) (c : List (Value × List Cl)) (x y z : Int) (w : World) (hL : LandAny w v1 v2 v3 v4 L c) (hx : 0 ≤ x ∧ x ≤ 255) (hy : 0 ≤ y ∧ y ≤ 255) (hz : 0 ≤ z ∧ z ≤ 255) :
    Calls Try.prog 12 #[.agg #[v1, v2, v3, v4], .int .u8 x, .int .u8 y, .int .u8 z, .bool false] w fun e w' => e = .returned (.bool true) ∧ Below w.heap.size w w' := by
  obtain ⟨hy0, hy1⟩ := hy
  obtain ⟨hz0, hz1⟩ := hz
  have HA := Lib.hid hL
  obtain ⟨A1, cap1, rfl, _, _⟩ := hL.st.form
  obtain ⟨A2, cap2, rfl, _, _⟩ := hL.rg.form
  obtain ⟨A3, cap3, rfl, _, _⟩ := hL.cs.form
  obtain ⟨A4, cap4, rfl, _, _⟩ := hL.sn.form
  have Hcl := Lib.hid (show c.length = L.cs.length by rw [← hL.eq]; simp)
  clear hL
  cases hr : readyB L
  case false =>
    have Hr := Lib.hid hr
    clear hr
    go_enter Try.func12, Try.ntmps12
    go_wp2_with fail
    refine (Lready_any _ _ _ _ L c _ (HA.out.kept (up_alloc up0 _))).mono ?_
    rintro e y0 ⟨rfl, hb⟩
    rw [Hr.out]
    go_wp2_with fail
    refine (awake_any _).mono ?_
    rintro e y1 ⟨rfl, hb2⟩
    go_wp2_with fail
    go_ret
    exact ⟨rfl, up_later (up_later (up_alloc up0 _) hb) hb2⟩
  have hq := hr
  simp only [readyB, Bool.and_eq_true, beq_iff_eq, decide_eq_true_eq] at hq
  obtain ⟨⟨hth, he⟩, h1n⟩ := hq
  have hT := HA.out.thin hth
  have hok := land_ok he
  obtain ⟨_, hl6, hg6, hc0, hc4, hs0, hs12⟩ := hok.len
  have hcl := Hcl.out
  obtain ⟨i, hi, hin⟩ := nat_mod (x := x) (n := L.st.length) (by omega)
  obtain ⟨j, hj, hjn⟩ := nat_mod (x := x % (L.st.length : Int) + 1 + x / 8 % ((L.st.length : Int) - 1)) (n := L.st.length) (by omega)
  have hij : i ≠ j := by
    have h := mod_ne (n := (L.st.length : Int)) (x := x) (by omega)
    rw [hi] at h hj
    rw [hj] at h
    omega
  have o1 : ∀ k h : Nat, k < L.cs.length → h < L.sn.length → openI L k h [(i : Int), (j : Int)] = 0 := fun k h hk hh => open_zero he hin hjn hk hh hij
  have Hr := Lib.hid hr
  have HT0 := Lib.hid hT
  have Hpi := Lib.hid (show (pairI (L.st.length : Int) x).1 = i from hi)
  have Hpj := Lib.hid (show (pairI (L.st.length : Int) x).2 = j from hj)
  have hn1 : L.st.length ≤ 1000 := by omega
  have i0 : (0 : Int) ≤ (i : Int) := by omega
  have i1 : (i : Int) < (L.st.length : Int) := by omega
  have j0 : (0 : Int) ≤ (j : Int) := by omega
  have j1 : (j : Int) < (L.st.length : Int) := by omega
  have He := Lib.hid he
  have Hok := Lib.hid hok
  have hlen := Lib.hid (lens hT)
  have hcl1 : c.length ≤ 1000 := hT.cs.form.1
  have ey1 : 0 ≤ y % 40 := by omega
  have ey2 : y % 40 ≤ 39 := by omega
  have nz1 : 0 ≤ z % 40 := by omega
  have nz2 : z % 40 ≤ 39 := by omega
  obtain ⟨e, hee⟩ : ∃ e, y % 40 - 20 = e := ⟨_, rfl⟩
  obtain ⟨n, hnn⟩ : ∃ n, z % 40 - 20 = n := ⟨_, rfl⟩
  have e1 : -20 ≤ e := by omega
  have e2 : e ≤ 20 := by omega
  have n1 : -20 ≤ n := by omega
  have n2 : n ≤ 20 := by omega
  have HEE := Lib.hid hee
  have HNN := Lib.hid hnn
  have HAL := Lib.hid (fun q (hm : errI (mvLd e n q L) = 0) => alike_moved he hm hin hjn hij hc0 hs0)
  clear hr hT hok hi hj hth he hcl hee hnn
  go_enter Try.func12, Try.ntmps12
  go_wp2_with fail
  have BX := Lib.hid (Box.new (w := w) (t := 27) (cs := #[.slice A1 L.st.length cap1, .slice A2 L.rg.length cap2, .slice A3 c.length cap3, .slice A4 L.sn.length cap4]) rfl)
  have HB := Lib.hid (up_alloc (up0 (w := w)) (.cells #[.slice A1 L.st.length cap1, .slice A2 L.rg.length cap2, .slice A3 c.length cap3, .slice A4 L.sn.length cap4] 27))
  have HT := Lib.hid (HT0.out.kept HB.out)
  refine (Lready_any _ _ _ _ L c _ (HA.out.kept HB.out)).mono ?_
  rintro e y0 ⟨rfl, hb⟩
  rw [Hr.out]
  have HB := Lib.hid (up_later HB.out hb)
  have HT := Lib.hid (HT.out.kept hb)
  have BX := Lib.hid (BX.out.kept hb)
  clear hb
  have BB := BX.out
  have cB := fun i => BB.cell i
  go_wp2_with fail
  clear cB BB
  refine (Lpair_any _ L.st.length cap1 _ _ _ x _ h1n hn1 hx).mono ?_
  rintro e y1 ⟨rfl, hb⟩
  rw [Hpi.out, Hpj.out]
  have HB := Lib.hid (up_later HB.out hb)
  have HT := Lib.hid (HT.out.kept hb)
  have BX := Lib.hid (BX.out.kept hb)
  clear hb
  have BB := BX.out
  have cB := fun i => BB.cell i
  go_wp2_with fail
  clear cB BB
  refine (copied_any _ _ _ _ L c _ HT.out).mono ?_
  rintro r y2 ⟨u1, u2, u3, u4, cx, rfl, hcop, hb⟩
  obtain ⟨F1, m1, p1, rfl⟩ := own_form hcop.o1
  obtain ⟨F2, m2, p2, rfl⟩ := own_form hcop.o2
  obtain ⟨F3, m3, p3, rfl⟩ := own_form hcop.o3
  obtain ⟨F4, m4, p4, rfl⟩ := own_form hcop.o4
  obtain ⟨s9, hs9⟩ : ∃ s, L.st[0]? = some s := ⟨_, List.getElem?_eq_getElem (by omega)⟩
  obtain ⟨b1, f1, rfl, -, -⟩ := (hcop.land (by omega) (by omega) (by omega) (by omega) hlen.out).st.at rfl hs9
  obtain ⟨rfl, rfl, _⟩ := own_put (i := 0) (u := iv 0) hcop.o1
  have hb1 := hcop.o1.lt b1 rfl
  obtain ⟨hg1, _, _, h2, _, _⟩ := (hcop.land (by omega) (by omega) (by omega) (by omega) hlen.out).rg.form
  cases h2
  obtain ⟨_, _, _, h4, _, _⟩ := (hcop.land (by omega) (by omega) (by omega) (by omega) hlen.out).sn.form
  cases h4
  obtain ⟨_, _, _, h3, _, _⟩ := (hcop.land (by omega) (by omega) (by omega) (by omega) hlen.out).cs.form
  have hcxl : cx.length = L.cs.length := by rw [← hcop.ec]; simp
  rw [hcxl] at h3
  cases h3
  obtain ⟨z9, hz9⟩ : ∃ z, cx[0]? = some z := ⟨_, List.getElem?_eq_getElem (by omega)⟩
  obtain ⟨b3, f3, rfl, -, -⟩ := (hcop.land (by omega) (by omega) (by omega) (by omega) hlen.out).cs.at rfl hz9
  obtain ⟨h0, -, -⟩ := own_put (i := 0) (u := iv 0) hcop.o3
  subst h0
  have HCXL := Lib.hid hcxl
  have HCX := Lib.hid (fun (k : Nat) (zs : List Cl) (h : L.cs[k]? = some zs) => hcop.case h)
  have hb0 := up_alloc hb (.cells #[.slice (some ⟨b1, 0, none⟩) L.st.length p1, .slice F2 L.rg.length p2, .slice (some ⟨b3, 0, none⟩) L.cs.length p3, .slice F4 L.sn.length p4] 27)
  have HC := Lib.hid (hcop.kept (up_alloc up0 (.cells #[.slice (some ⟨b1, 0, none⟩) L.st.length p1, .slice F2 L.rg.length p2, .slice (some ⟨b3, 0, none⟩) L.cs.length p3, .slice F4 L.sn.length p4] 27)))
  have XB := Lib.hid (Box.new (w := y2) (t := 27) (cs := #[.slice (some ⟨b1, 0, none⟩) L.st.length p1, .slice F2 L.rg.length p2, .slice (some ⟨b3, 0, none⟩) L.cs.length p3, .slice F4 L.sn.length p4]) rfl)
  have hyn1 : w.heap.size + 1 ≤ y1.heap.size := BX.out.lt
  have hyn : y1.heap.size ≤ y2.heap.size := hb.size
  have HT := Lib.hid (HT.out.kept hb0)
  have BX := Lib.hid (BX.out.kept hb0)
  have HB := Lib.hid (up_later HB.out hb0)
  clear hb hb0 hcop hs9 hcxl hg1 hz9
  go_upto_region 6 with fail
  rw [HEE.out, HNN.out]
  clear ey1 ey2 nz1 nz2
  go_wp2_with fail
  go_loopw [16] (fun i wr => ∃ k : Nat, k ≤ L.st.length ∧ i = .int .i64 k ∧ Hid (Below w.heap.size w wr) ∧ Hid (Box wr w.heap.size 27 #[.slice A1 L.st.length cap1, .slice A2 L.rg.length cap2, .slice A3 c.length cap3, .slice A4 L.sn.length cap4]) ∧ Hid (Box wr y2.heap.size 27 #[.slice (some ⟨b1, 0, none⟩) L.st.length p1, .slice F2 L.rg.length p2, .slice (some ⟨b3, 0, none⟩) L.cs.length p3, .slice F4 L.sn.length p4]) ∧ Hid (Cop 74 79 80 60 82 y1.heap.size ⟨upd (mvSt e n false) k L.st, L.rg, L.cs, L.sn⟩ wr (.slice (some ⟨b1, 0, none⟩) L.st.length p1) (.slice F2 L.rg.length p2) (.slice (some ⟨b3, 0, none⟩) L.cs.length p3) (.slice F4 L.sn.length p4) cx)) (fun i _ => L.st.length - (intOf i).toNat)
  case atStart => exact ⟨0, by omega, rfl, HB.out, BX.out, XB.out, by rw [upd_zero]; exact HC.out⟩
  case round =>
    clear HB BX XB HC
    obtain ⟨k, hk, rfl, HB, BX, XB, HC⟩ := hrel
    have k0 : (0 : Int) ≤ (k : Int) := by omega
    by_cases hlt : k < L.st.length
    · have k1 : (k : Int) < (L.st.length : Int) := by omega
      obtain ⟨s, hs⟩ : ∃ s, L.st[k]? = some s := ⟨_, List.getElem?_eq_getElem hlt⟩
      have HS := Lib.hid hs
      obtain ⟨⟨v1, v2⟩, v3, v4⟩ := st_bd (List.all_eq_true.1 (sts_of He.out) s (List.mem_of_getElem? hs))
      have D1 : IntKind.i64.wrap (s.x + e) = s.x + e := wrapK_in _ 2000 (by omega) (by omega)
      have D2 : IntKind.i64.wrap (s.y + n) = s.y + n := wrapK_in _ 2000 (by omega) (by omega)
      clear hs
      have BB := XB.out
      have cB := fun i => BB.cell i
      go_upto_region 10 with fail
      clear cB BB
      have t1 := HC.out.putSt2 (s' := ⟨s.x + e, s.y, s.z, s.m⟩) (j := 0) (u := iv (s.x + e)) (upd_at HS.out) (by decide) rfl (by decide) (by decide) (by decide) (by decide)
      have g1 : ((upd (mvSt e n false) k L.st).set k ⟨s.x + e, s.y, s.z, s.m⟩)[k]? = some ⟨s.x + e, s.y, s.z, s.m⟩ := by rw [List.getElem?_set_self]; rw [upd_len]; exact hlt
      have t2 := t1.putSt2 (s' := ⟨s.x + e, s.y + n, s.z, s.m⟩) (j := 1) (u := iv (s.y + n)) g1 (by decide) rfl (by decide) (by decide) (by decide) (by decide)
      have G1 := Lib.hid g1
      have T1 := Lib.hid t1
      have T2 := Lib.hid t2
      clear t1 t2 g1
      apply wp_region_puts 20 [(16, ⟨b1, k * 4, none⟩, iv (s.x + e)), (19, ⟨b1, k * 4 + 1, none⟩, iv (s.y + n))] [_, _, _, _, _, _, _, _, _, _, _, _, _, _, _, _, undef, _, _, undef]
      case hm => kernel_rfl
      case hB => kernel_rfl
      case hS => kernel_rfl
      case hA => (intro vs; simp only [List.take_succ_cons, List.take_zero, putAll, if_true, Act.put, List.setIfInBounds_toArray, List.set_cons_zero, List.set_cons_succ]; exact rfl)
      case hstep =>
        intro vs
        refine And.intro (fun _ w hz hE hd => ?_) ?_
        · refine And.intro rfl ?_
          simp only [Gives]
          go_simp
          exact ⟨Below.refl _ _, rfl⟩
        refine And.intro (fun _ w hz hE hd => ?_) ?_
        · refine And.intro rfl ?_
          simp only [Gives]
          go_simp
          exact ⟨Below.refl _ _, rfl⟩
        refine And.intro (fun _ w hz hE hd => ?_) ?_
        · refine And.intro rfl ?_
          simp only [Gives]
          go_simp
          exact ⟨Below.refl _ _, rfl⟩
        refine And.intro (fun _ w hz hE hd => ?_) ?_
        · have d2 := hd 2 (by decide) rfl rfl
          change vs 2 = _ at d2
          refine And.intro rfl ?_
          simp only [Gives]
          go_simp
          exact ⟨Below.refl _ _, rfl⟩
        refine And.intro (fun _ w hz hE hd => ?_) ?_
        · have d3 := hd 3 (by decide) rfl rfl
          change vs 3 = _ at d3
          refine And.intro rfl ?_
          simp only [Gives]
          go_simp
          exact ⟨Below.refl _ _, rfl⟩
        refine And.intro (fun _ w hz hE hd => ?_) ?_
        · have d4 := hd 4 (by decide) rfl rfl
          change vs 4 = _ at d4
          refine And.intro rfl ?_
          obtain ⟨j, hj, hno, hw⟩ := hE
          obtain rfl := first_put hno (by kernel_rfl)
          simp only [List.take_zero, putsTo] at hw
          have q0 : w.cell? ⟨b1, k * 4, none⟩ = some (iv s.x) := stCell (j := 0) (HC.out.kept hw) (upd_at HS.out) (by rw [upd_len]; omega) rfl
          simp only [Gives]
          go_simp
          exact ⟨Below.refl _ _, rfl⟩
        refine And.intro (fun _ w hz hE hd => ?_) ?_
        · refine And.intro rfl ?_
          simp only [Gives]
          go_simp
          exact ⟨Below.refl _ _, rfl⟩
        refine And.intro (fun _ w hz hE hd => ?_) ?_
        · have d5 := hd 5 (by decide) rfl rfl
          change vs 5 = _ at d5
          have d6 := hd 6 (by decide) rfl rfl
          change vs 6 = _ at d6
          refine And.intro rfl ?_
          simp only [Gives]
          go_simp
          exact ⟨Below.refl _ _, rfl⟩
        refine And.intro (fun _ w hz hE hd => ?_) ?_
        · refine And.intro rfl ?_
          simp only [Gives]
          go_simp
          exact ⟨Below.refl _ _, rfl⟩
        refine And.intro (fun _ w hz hE hd => ?_) ?_
        · have d8 := hd 8 (by decide) rfl rfl
          change vs 8 = _ at d8
          refine And.intro rfl ?_
          simp only [Gives]
          go_simp
          exact ⟨Below.refl _ _, rfl⟩
        refine And.intro (fun _ w hz hE hd => ?_) ?_
        · have d9 := hd 9 (by decide) rfl rfl
          change vs 9 = _ at d9
          refine And.intro rfl ?_
          simp only [Gives]
          go_simp
          exact ⟨Below.refl _ _, rfl⟩
        refine And.intro (fun _ w hz hE hd => ?_) ?_
        · have d10 := hd 10 (by decide) rfl rfl
          change vs 10 = _ at d10
          refine And.intro rfl ?_
          obtain ⟨j, hj, hno, hw⟩ := hE
          have q0 : w.cell? ⟨b1, k * 4 + 1, none⟩ = some (iv s.y) := (second_put hj hno (by kernel_rfl)).elim (fun h => (by subst h; simp only [List.take_zero, putsTo] at hw; exact stCell (j := 1) (HC.out.kept hw) (upd_at HS.out) (by rw [upd_len]; omega) rfl)) (fun h => (by subst h; simp only [List.take_succ_cons, List.take_zero, putsTo] at hw; exact stCell (j := 1) (T1.out.kept (hw.mono (by simp [World.setCell]))) G1.out (by rw [List.length_set, upd_len]; omega) rfl))
          simp only [Gives]
          go_simp
          exact ⟨Below.refl _ _, rfl⟩
        refine And.intro (fun _ w hz hE hd => ?_) ?_
        · refine And.intro rfl ?_
          simp only [Gives]
          go_simp
          exact ⟨Below.refl _ _, rfl⟩
        refine And.intro (fun _ w hz hE hd => ?_) ?_
        · have d11 := hd 11 (by decide) rfl rfl
          change vs 11 = _ at d11
          have d12 := hd 12 (by decide) rfl rfl
          change vs 12 = _ at d12
          refine And.intro rfl ?_
          simp only [Gives]
          go_simp
          exact ⟨Below.refl _ _, rfl⟩
        refine And.intro (fun _ w hz hE hd => ?_) ?_
        · have d0 := hd 0 (by decide) rfl rfl
          change vs 0 = _ at d0
          refine And.intro rfl ?_
          simp only [Gives]
          go_simp
          exact ⟨Below.refl _ _, rfl⟩
        refine And.intro (fun _ w hz hE hd => ?_) ?_
        · have d14 := hd 14 (by decide) rfl rfl
          change vs 14 = _ at d14
          refine And.intro rfl ?_
          simp only [Gives]
          go_simp
          exact ⟨Below.refl _ _, rfl⟩
        refine And.intro (fun h => by cases h) ?_
        refine And.intro (fun _ w hz hE hd => ?_) ?_
        · have d1 := hd 1 (by decide) rfl rfl
          change vs 1 = _ at d1
          refine And.intro rfl ?_
          simp only [Gives]
          go_simp
          exact ⟨Below.refl _ _, rfl⟩
        refine And.intro (fun _ w hz hE hd => ?_) ?_
        · have d17 := hd 17 (by decide) rfl rfl
          change vs 17 = _ at d17
          refine And.intro rfl ?_
          simp only [Gives]
          go_simp
          exact ⟨Below.refl _ _, rfl⟩
        refine And.intro (fun h => by cases h) ?_
        exact trivial
      case hp =>
        intro vs m x o hx ho w hw hd
        rcases m with _ | _ | m
        · obtain rfl := Option.some.inj hx
          obtain rfl := Option.some.inj ho
          have d15 := hd 15 (by decide) rfl rfl
          change vs 15 = _ at d15
          have d7 := hd 7 (by decide) rfl rfl
          change vs 7 = _ at d7
          simp only [List.take_zero, putsTo] at hw
          refine And.intro rfl ?_
          have C := HC.out.kept hw
          have q0 : w.cell? ⟨b1, k * 4, none⟩ = some (iv s.x) := stCell (j := 0) C (upd_at HS.out) (by rw [upd_len]; omega) rfl
          have f0 : w.frozen? ⟨b1, k * 4, none⟩ = false := own_free C.o1
          simp only [Gives]
          go_simp
          exact rfl
        · obtain rfl := Option.some.inj hx
          obtain rfl := Option.some.inj ho
          have d18 := hd 18 (by decide) rfl rfl
          change vs 18 = _ at d18
          have d13 := hd 13 (by decide) rfl rfl
          change vs 13 = _ at d13
          simp only [List.take_succ_cons, List.take_zero, putsTo] at hw
          refine And.intro rfl ?_
          have C := T1.out.kept (hw.mono (by simp [World.setCell]))
          have q0 : w.cell? ⟨b1, k * 4 + 1, none⟩ = some (iv s.y) := stCell (j := 1) C G1.out (by rw [List.length_set, upd_len]; omega) rfl
          have f0 : w.frozen? ⟨b1, k * 4 + 1, none⟩ = false := own_free C.o1
          simp only [Gives]
          go_simp
          exact rfl
        · simp at hx
      intro vs wt hw hd
      simp only [putsTo] at hw
      have d0 := hd 0 (by decide) rfl
      change vs 0 = _ at d0
      have d1 := hd 1 (by decide) rfl
      change vs 1 = _ at d1
      have d2 := hd 2 (by decide) rfl
      change vs 2 = _ at d2
      have d3 := hd 3 (by decide) rfl
      change vs 3 = _ at d3
      have d4 := hd 4 (by decide) rfl
      change vs 4 = _ at d4
      have d5 := hd 5 (by decide) rfl
      change vs 5 = _ at d5
      have d6 := hd 6 (by decide) rfl
      change vs 6 = _ at d6
      have d7 := hd 7 (by decide) rfl
      change vs 7 = _ at d7
      have d8 := hd 8 (by decide) rfl
      change vs 8 = _ at d8
      have d9 := hd 9 (by decide) rfl
      change vs 9 = _ at d9
      have d10 := hd 10 (by decide) rfl
      change vs 10 = _ at d10
      have d11 := hd 11 (by decide) rfl
      change vs 11 = _ at d11
      have d12 := hd 12 (by decide) rfl
      change vs 12 = _ at d12
      have d13 := hd 13 (by decide) rfl
      change vs 13 = _ at d13
      have d14 := hd 14 (by decide) rfl
      change vs 14 = _ at d14
      have d15 := hd 15 (by decide) rfl
      change vs 15 = _ at d15
      have d17 := hd 17 (by decide) rfl
      change vs 17 = _ at d17
      have d18 := hd 18 (by decide) rfl
      change vs 18 = _ at d18
      simp only [d0, d1, d2, d3, d4, d5, d6, d7, d8, d9, d10, d11, d12, d13, d14, d15, d17, d18, List.drop_succ_cons, List.drop_nil]
      clear hd d0 d1 d2 d3 d4 d5 d6 d7 d8 d9 d10 d11 d12 d13 d14 d15 d17 d18
      have Q := T2.out.kept (hw.mono (by simp [World.setCell]))
      rw [List.set_set, show (⟨s.x + e, s.y + n, s.z, s.m⟩ : St) = mvSt e n false s from rfl, upd_set HS.out] at Q
      have hg4 : wr.grownBy ((wr.setCell ⟨b1, k * 4, none⟩ (iv (s.x + e))).setCell ⟨b1, k * 4 + 1, none⟩ (iv (s.y + n))) (some b1) := (grownBy_set _ _ _ _).trans (grownBy_set _ _ _ _)
      have hg5 := hg4.trans ((grown_of_below (hw.mono (by simp [World.setCell]))).but _)
      have XB := Lib.hid (XB.out.grown hg5 (fun h => by have h2 : y2.heap.size = b1 := Option.some.inj h; omega))
      have BX := Lib.hid (BX.out.grown hg5 (fun h => by have h2 : w.heap.size = b1 := Option.some.inj h; omega))
      have HB := Lib.hid (HB.out.grown hg5 HB.out.size (fun b h => by have h2 : b1 = b := Option.some.inj h; omega))
      have HC := Lib.hid Q
      clear Q hg4 hg5 hw T1 T2
      go_wp2_with fail
      exact ⟨⟨k + 1, by omega, by go_num, HB.out, BX.out, XB.out, HC.out⟩, by simp [intOf]; omega⟩
    · obtain rfl : k = L.st.length := by omega
      rw [upd_all] at HC
      have BB := XB.out
      have cB := fun i => BB.cell i
      go_upto_region 14 with fail
      clear cB BB
      go_loopw [18] (fun i wr => ∃ k : Nat, k ≤ L.rg.length ∧ i = .int .i64 k ∧ Hid (Below w.heap.size w wr) ∧ Hid (Box wr w.heap.size 27 #[.slice A1 L.st.length cap1, .slice A2 L.rg.length cap2, .slice A3 c.length cap3, .slice A4 L.sn.length cap4]) ∧ Hid (Box wr y2.heap.size 27 #[.slice (some ⟨b1, 0, none⟩) L.st.length p1, .slice F2 L.rg.length p2, .slice (some ⟨b3, 0, none⟩) L.cs.length p3, .slice F4 L.sn.length p4]) ∧ Hid (Cop 74 79 80 60 82 y1.heap.size ⟨L.st.map (mvSt e n false), upd (mvWl e n false) k L.rg, L.cs, L.sn⟩ wr (.slice (some ⟨b1, 0, none⟩) L.st.length p1) (.slice F2 L.rg.length p2) (.slice (some ⟨b3, 0, none⟩) L.cs.length p3) (.slice F4 L.sn.length p4) cx)) (fun i _ => L.rg.length - (intOf i).toNat)
      case atStart => exact ⟨0, by omega, rfl, HB.out, BX.out, XB.out, by rw [upd_zero]; exact HC.out⟩
      case round =>
        clear HB BX XB HC
        obtain ⟨k, hk, rfl, HB, BX, XB, HC⟩ := hrel
        have k0 : (0 : Int) ≤ (k : Int) := by omega
        by_cases hlt : k < L.rg.length
        · have k1 : (k : Int) < (L.rg.length : Int) := by omega
          obtain ⟨s, hs⟩ : ∃ s, L.rg[k]? = some s := ⟨_, List.getElem?_eq_getElem hlt⟩
          have HS := Lib.hid hs
          obtain ⟨v1, v2, v3, v4⟩ := wl_bd (rg_wl (List.all_eq_true.1 (rgs_of He.out) s (List.mem_of_getElem? hs)))
          have V1 := Lib.hid v1
          have V2 := Lib.hid v2
          have V3 := Lib.hid v3
          have V4 := Lib.hid v4
          clear hs v1 v2 v3 v4
          obtain ⟨b2, f2, hF2, -, -⟩ := (RowsAt.of_ownM (cells := Wl.cells) (fun _ => rfl) HC.out.o2 rfl (by rw [upd_len]; omega)).at rfl (upd_at HS.out)
          subst hF2
          obtain ⟨h0, -, -⟩ := own_put (i := 0) (u := iv 0) HC.out.o2
          subst h0
          have hb2 := HC.out.o2.lt b2 rfl
          have n_b2 : y2.heap.size ≠ b2 := fun h => box_not_own XB.out (by decide) HC.out.o2 (by rw [h]; rfl)
          have BB := XB.out
          have cB := fun i => BB.cell i
          go_upto_region 16 with fail
          clear cB
          apply wp_region_by 13 [(Fact.eq _), (Fact.eq _), (Fact.eq _), (Fact.eq _), (Fact.eq _), (Fact.eq _), (Fact.eq _), (Fact.eq _), (Fact.eq _), (Fact.eq _), (Fact.eq _), (Fact.eq _), (Fact.eq _)]
          case hm => kernel_rfl
          case hB => kernel_rfl
          case hA => (intro vs; simp only [List.take_succ_cons, List.take_zero, putAll, if_true, Act.put, List.setIfInBounds_toArray, List.set_cons_zero, List.set_cons_succ]; exact rfl)
          case hstep =>
            intro vs
            refine And.intro (fun w hw hd => ?_) ?_
            · refine ite_yes rfl ?_
              simp only [Gives]
              go_simp
              exact ⟨Below.refl _ _, rfl, fun h => by cases h⟩
            refine And.intro (fun w hw hd => ?_) ?_
            · have d0 := hd 0 (by decide) rfl
              change vs 0 = _ at d0
              refine ite_yes rfl ?_
              have c_BB := fun i => (BB.kept hw).cell i
              simp only [Gives]
              go_simp
              exact ⟨Below.refl _ _, rfl, fun h => by cases h⟩
            refine And.intro (fun w hw hd => ?_) ?_
            · refine ite_yes rfl ?_
              simp only [Gives]
              go_simp
              exact ⟨Below.refl _ _, rfl, fun h => by cases h⟩
            refine And.intro (fun w hw hd => ?_) ?_
            · refine ite_yes rfl ?_
              simp only [Gives]
              go_simp
              exact ⟨Below.refl _ _, rfl, fun h => by cases h⟩
            refine And.intro (fun w hw hd => ?_) ?_
            · have d3 := hd 3 (by decide) rfl
              change vs 3 = _ at d3
              refine ite_yes rfl ?_
              have c_BB := fun i => (BB.kept hw).cell i
              simp only [Gives]
              go_simp
              exact ⟨Below.refl _ _, rfl, fun h => by cases h⟩
            refine And.intro (fun w hw hd => ?_) ?_
            · refine ite_yes rfl ?_
              simp only [Gives]
              go_simp
              exact ⟨Below.refl _ _, rfl, fun h => by cases h⟩
            refine And.intro (fun w hw hd => ?_) ?_
            · have d4 := hd 4 (by decide) rfl
              change vs 4 = _ at d4
              have d5 := hd 5 (by decide) rfl
              change vs 5 = _ at d5
              refine ite_yes rfl ?_
              simp only [Gives]
              go_simp
              exact ⟨Below.refl _ _, rfl, fun h => by cases h⟩
            refine And.intro (fun w hw hd => ?_) ?_
            · have d6 := hd 6 (by decide) rfl
              change vs 6 = _ at d6
              refine ite_yes rfl ?_
              have c_BB := fun i => (BB.kept hw).cell i
              have C := HC.out.kept hw
              have q0 : w.cell? ⟨b2, k * 6, none⟩ = some (iv s.x1) := C.rgCell (j := 0) (upd_at HS.out) (by rw [upd_len]; omega) rfl
              have q1 := C.rgCell (j := 1) (upd_at HS.out) (by rw [upd_len]; omega) rfl
              have q2 := C.rgCell (j := 2) (upd_at HS.out) (by rw [upd_len]; omega) rfl
              have q3 := C.rgCell (j := 3) (upd_at HS.out) (by rw [upd_len]; omega) rfl
              have q4 := C.rgCell (j := 4) (upd_at HS.out) (by rw [upd_len]; omega) rfl
              have q5 := C.rgCell (j := 5) (upd_at HS.out) (by rw [upd_len]; omega) rfl
              simp only [Gives]
              go_simp
              exact ⟨Below.refl _ _, rfl, fun h => by cases h⟩
            refine And.intro (fun w hw hd => ?_) ?_
            · refine ite_yes rfl ?_
              simp only [Gives]
              go_simp
              exact ⟨Below.refl _ _, rfl, fun h => by cases h⟩
            refine And.intro (fun w hw hd => ?_) ?_
            · refine ite_yes rfl ?_
              simp only [Gives]
              go_simp
              exact ⟨Below.refl _ _, rfl, fun h => by cases h⟩
            refine And.intro (fun w hw hd => ?_) ?_
            · refine ite_yes rfl ?_
              simp only [Gives]
              go_simp
              exact ⟨Below.refl _ _, rfl, fun h => by cases h⟩
            refine And.intro (fun w hw hd => ?_) ?_
            · have d7 := hd 7 (by decide) rfl
              change vs 7 = _ at d7
              have d8 := hd 8 (by decide) rfl
              change vs 8 = _ at d8
              have d9 := hd 9 (by decide) rfl
              change vs 9 = _ at d9
              have d10 := hd 10 (by decide) rfl
              change vs 10 = _ at d10
              refine ite_yes rfl ?_
              simp only [Gives]
              go_simp
              refine (moved_any s e n false _ V1.out V2.out V3.out V4.out ⟨e1, e2⟩ ⟨n1, n2⟩).mono ?_
              rintro e w1 ⟨rfl, hb⟩
              exact ⟨_, rfl, hb, rfl, fun h => by cases h⟩
            refine And.intro (fun w hw hd => ?_) ?_
            · have d1 := hd 1 (by decide) rfl
              change vs 1 = _ at d1
              have d2 := hd 2 (by decide) rfl
              change vs 2 = _ at d2
              refine ite_yes rfl ?_
              simp only [Gives]
              go_simp
              exact ⟨Below.refl _ _, rfl, fun h => by cases h⟩
            exact trivial
          intro vs wt hw hd hne hlo
          have d0 := hd 0 (by decide)
          change vs 0 = _ at d0
          have d1 := hd 1 (by decide)
          change vs 1 = _ at d1
          have d2 := hd 2 (by decide)
          change vs 2 = _ at d2
          have d3 := hd 3 (by decide)
          change vs 3 = _ at d3
          have d4 := hd 4 (by decide)
          change vs 4 = _ at d4
          have d5 := hd 5 (by decide)
          change vs 5 = _ at d5
          have d6 := hd 6 (by decide)
          change vs 6 = _ at d6
          have d7 := hd 7 (by decide)
          change vs 7 = _ at d7
          have d8 := hd 8 (by decide)
          change vs 8 = _ at d8
          have d9 := hd 9 (by decide)
          change vs 9 = _ at d9
          have d10 := hd 10 (by decide)
          change vs 10 = _ at d10
          have d11 := hd 11 (by decide)
          change vs 11 = _ at d11
          have d12 := hd 12 (by decide)
          change vs 12 = _ at d12
          simp only [d0, d1, d2, d3, d4, d5, d6, d7, d8, d9, d10, d11, d12, List.drop_succ_cons, List.drop_zero]
          have BB := BB.kept hw
          have c_BB := fun i => BB.cell i
          have f_BB := fun i => BB.free i
          clear hd hne hlo d0 d1 d2 d3 d4 d5 d6 d7 d8 d9 d10 d11 d12
          have hb := hw
          clear BB c_BB f_BB hw
          have HB := Lib.hid (up_later HB.out hb)
          have BX := Lib.hid (BX.out.kept hb)
          have XB := Lib.hid (XB.out.kept hb)
          have HC := Lib.hid (HC.out.kept hb)
          clear hb
          have C := HC.out
          have q0 : wt.cell? ⟨b2, k * 6, none⟩ = some (iv s.x1) := C.rgCell (j := 0) (upd_at HS.out) (by rw [upd_len]; omega) rfl
          have q1 := C.rgCell (j := 1) (upd_at HS.out) (by rw [upd_len]; omega) rfl
          have q2 := C.rgCell (j := 2) (upd_at HS.out) (by rw [upd_len]; omega) rfl
          have q3 := C.rgCell (j := 3) (upd_at HS.out) (by rw [upd_len]; omega) rfl
          have q4 := C.rgCell (j := 4) (upd_at HS.out) (by rw [upd_len]; omega) rfl
          have q5 := C.rgCell (j := 5) (upd_at HS.out) (by rw [upd_len]; omega) rfl
          have f0 := fun i : Nat => own_free (p := i) C.o2
          have hL : setRg ⟨L.st.map (mvSt e n false), upd (mvWl e n false) k L.rg, L.cs, L.sn⟩ k (mvWl e n false s) = ⟨L.st.map (mvSt e n false), upd (mvWl e n false) (k + 1) L.rg, L.cs, L.sn⟩ := by
            unfold setRg
            simp only [upd_set HS.out]
          have Q := C.putRg6 (x := mvWl e n false s) (upd_at HS.out) (by decide) (by decide) (by decide) (by decide)
          rw [hL] at Q
          have HQ := Lib.hid Q
          have hg6 : wt.grownBy ((((((wt.setCell ⟨b2, k * 6, none⟩ (iv (mvWl e n false s).x1)).setCell ⟨b2, k * 6 + 1, none⟩ (iv (mvWl e n false s).y1)).setCell ⟨b2, k * 6 + 2, none⟩ (iv (mvWl e n false s).x2)).setCell ⟨b2, k * 6 + 3, none⟩ (iv (mvWl e n false s).y2)).setCell ⟨b2, k * 6 + 4, none⟩ (iv (mvWl e n false s).b)).setCell ⟨b2, k * 6 + 5, none⟩ (iv (mvWl e n false s).t)) (some b2) := (((((grownBy_set _ _ _ _).trans (grownBy_set _ _ _ _)).trans (grownBy_set _ _ _ _)).trans (grownBy_set _ _ _ _)).trans (grownBy_set _ _ _ _)).trans (grownBy_set _ _ _ _)
          have HG := Lib.hid hg6
          clear C hL Q hg6
          go_wp2_with fail
          clear q0 q1 q2 q3 q4 q5 f0
          have XB := Lib.hid (XB.out.grown HG.out (fun h => by have h2 : y2.heap.size = b2 := Option.some.inj h; omega))
          have BX := Lib.hid (BX.out.grown HG.out (fun h => by have h2 : w.heap.size = b2 := Option.some.inj h; omega))
          have HB := Lib.hid (HB.out.grown HG.out HB.out.size (fun b h => by have h2 : b2 = b := Option.some.inj h; omega))
          exact ⟨⟨k + 1, by omega, by go_num, HB.out, BX.out, XB.out, HQ.out⟩, by simp [intOf]; omega⟩
        · obtain rfl : k = L.rg.length := by omega
          rw [upd_all] at HC
          have BB := XB.out
          have cB := fun i => BB.cell i
          go_upto_region 18 with fail
          clear cB BB
          go_loopw [19] (fun i wr => ∃ k : Nat, k ≤ L.cs.length ∧ i = .int .i64 k ∧ Hid (Below w.heap.size w wr) ∧ Hid (Box wr w.heap.size 27 #[.slice A1 L.st.length cap1, .slice A2 L.rg.length cap2, .slice A3 c.length cap3, .slice A4 L.sn.length cap4]) ∧ Hid (Box wr y2.heap.size 27 #[.slice (some ⟨b1, 0, none⟩) L.st.length p1, .slice F2 L.rg.length p2, .slice (some ⟨b3, 0, none⟩) L.cs.length p3, .slice F4 L.sn.length p4]) ∧ Hid (Cop 74 79 80 60 82 y1.heap.size ⟨L.st.map (mvSt e n false), L.rg.map (mvWl e n false), upd (fun l : List Cl => l.map (mvCl e n false)) k L.cs, L.sn⟩ wr (.slice (some ⟨b1, 0, none⟩) L.st.length p1) (.slice F2 L.rg.length p2) (.slice (some ⟨b3, 0, none⟩) L.cs.length p3) (.slice F4 L.sn.length p4) (upd (fun x : Value × List Cl => (x.1, x.2.map (mvCl e n false))) k cx))) (fun i _ => L.cs.length - (intOf i).toNat)
          case atStart => exact ⟨0, by omega, rfl, HB.out, BX.out, XB.out, by rw [upd_zero, upd_zero]; exact HC.out⟩
          case round =>
            clear HB BX XB HC
            obtain ⟨k, hk, rfl, HB, BX, XB, HC⟩ := hrel
            have k0 : (0 : Int) ≤ (k : Int) := by omega
            by_cases hlt : k < L.cs.length
            · have k1 : (k : Int) < (L.cs.length : Int) := by omega
              obtain ⟨zs, hzs⟩ : ∃ s, L.cs[k]? = some s := ⟨_, List.getElem?_eq_getElem hlt⟩
              have HZ := Lib.hid hzs
              have hzl := case_len He.out zs (List.mem_of_getElem? hzs)
              obtain ⟨Fz, mz, pz, hck, hzo⟩ := HCX.out k zs hzs
              obtain ⟨_, _, _, h6, _, _⟩ := (RowsAt.of_ownM (cells := Cl.cells) (fun _ => rfl) hzo rfl (by omega)).form
              cases h6
              have HCK := Lib.hid hck
              have HKC := Lib.hid (show k < (upd (fun x : Value × List Cl => (x.1, x.2.map (mvCl e n false))) k cx).length by rw [upd_len]; exact (List.getElem?_eq_some_iff.1 hck).1)
              clear hzs hck hzo
              have BB := XB.out
              have cB := fun i => BB.cell i
              go_upto_region 21 with fail
              clear cB BB
              obtain ⟨wo, rfl⟩ : ∃ wo : World, wo = wr := ⟨_, rfl⟩
              go_loopw [20] (fun i wr => ∃ m : Nat, m ≤ zs.length ∧ i = .int .i64 m ∧ Hid (Below w.heap.size w wr) ∧ Hid (Box wr w.heap.size 27 #[.slice A1 L.st.length cap1, .slice A2 L.rg.length cap2, .slice A3 c.length cap3, .slice A4 L.sn.length cap4]) ∧ Hid (Box wr y2.heap.size 27 #[.slice (some ⟨b1, 0, none⟩) L.st.length p1, .slice F2 L.rg.length p2, .slice (some ⟨b3, 0, none⟩) L.cs.length p3, .slice F4 L.sn.length p4]) ∧ Hid (Cop 74 79 80 60 82 y1.heap.size ⟨L.st.map (mvSt e n false), L.rg.map (mvWl e n false), (upd (fun l : List Cl => l.map (mvCl e n false)) k L.cs).set k (upd (mvCl e n false) m zs), L.sn⟩ wr (.slice (some ⟨b1, 0, none⟩) L.st.length p1) (.slice F2 L.rg.length p2) (.slice (some ⟨b3, 0, none⟩) L.cs.length p3) (.slice F4 L.sn.length p4) ((upd (fun x : Value × List Cl => (x.1, x.2.map (mvCl e n false))) k cx).set k (.slice Fz zs.length pz, upd (mvCl e n false) m zs)))) (fun i _ => zs.length - (intOf i).toNat)
              case atStart => exact ⟨0, by omega, rfl, HB.out, BX.out, XB.out, by rw [upd_zero, set_self (upd_at HZ.out), set_self (upd_at HCK.out)]; exact HC.out⟩
              case round =>
                clear HB BX XB HC
                obtain ⟨m, hm, rfl, HB, BX, XB, HC⟩ := hrel
                have m0 : (0 : Int) ≤ (m : Int) := by omega
                have hq3 : wr.cell? ⟨b3, k, none⟩ = some (.slice Fz zs.length pz) := own_cell HC.out.o3 (by rw [List.getElem?_map, List.getElem?_set_self HKC.out]; rfl)
                have Hq3 := Lib.hid hq3
                clear hq3
                by_cases hlm : m < zs.length
                · have m1 : (m : Int) < (zs.length : Int) := by omega
                  obtain ⟨s, hs⟩ : ∃ s, zs[m]? = some s := ⟨_, List.getElem?_eq_getElem hlm⟩
                  have HS := Lib.hid hs
                  obtain ⟨v1, v2, v3, v4⟩ := wl_bd (cl_wl (List.all_eq_true.1 (List.all_eq_true.1 (cls_of He.out) zs (List.mem_of_getElem? HZ.out)) s (List.mem_of_getElem? hs)))
                  have V1 := Lib.hid v1
                  have V2 := Lib.hid v2
                  have V3 := Lib.hid v3
                  have V4 := Lib.hid v4
                  clear hs v1 v2 v3 v4
                  have ho5 := HC.out.each _ (List.mem_of_getElem? (List.getElem?_set_self (a := (.slice Fz zs.length pz, upd (mvCl e n false) m zs)) HKC.out))
                  simp only at ho5
                  obtain ⟨b5, f5, hF5, -, -⟩ := (RowsAt.of_ownM (cells := Cl.cells) (fun _ => rfl) ho5 rfl (by rw [upd_len]; omega)).at rfl (upd_at HS.out)
                  subst hF5
                  obtain ⟨h0, -, -⟩ := own_put (i := 0) (u := iv 0) ho5
                  subst h0
                  have hb5 := ho5.lt b5 rfl
                  have n_b5 : y2.heap.size ≠ b5 := fun h => box_not_own XB.out (by decide) ho5 (by rw [h]; rfl)
                  clear ho5
                  have CK := Lib.hid (show ((upd (fun x : Value × List Cl => (x.1, x.2.map (mvCl e n false))) k cx).set k (.slice (some ⟨b5, 0, none⟩) zs.length pz, upd (mvCl e n false) m zs))[k]? = some (.slice (some ⟨b5, 0, none⟩) zs.length pz, upd (mvCl e n false) m zs) from List.getElem?_set_self HKC.out)
                  have BB := XB.out
                  have cB := fun i => BB.cell i
                  have hq3 := Hq3.out
                  go_upto_region 23 with fail
                  clear cB hq3
                  apply wp_region_by 21 [(Fact.eq _), (Fact.eq _), (Fact.eq _), (Fact.eq _), (Fact.eq _), (Fact.eq _), (Fact.eq _), (Fact.eq _), (Fact.eq _), (Fact.eq _), (Fact.eq _), (Fact.eq _), (Fact.eq _), (Fact.eq _), (Fact.eq _), (Fact.eq _), (Fact.eq _), (Fact.eq _), (Fact.eq _), (Fact.eq _), (Fact.eq _)]
                  case hm => kernel_rfl
                  case hB => kernel_rfl
                  case hA => (intro vs; simp only [List.take_succ_cons, List.take_zero, putAll, if_true, Act.put, List.setIfInBounds_toArray, List.set_cons_zero, List.set_cons_succ]; exact rfl)
                  case hstep =>
                    intro vs
                    refine And.intro (fun w hw hd => ?_) ?_
                    · refine ite_yes rfl ?_
                      simp only [Gives]
                      go_simp
                      exact ⟨Below.refl _ _, rfl, fun h => by cases h⟩
                    refine And.intro (fun w hw hd => ?_) ?_
                    · have d0 := hd 0 (by decide) rfl
                      change vs 0 = _ at d0
                      refine ite_yes rfl ?_
                      have c_BB := fun i => (BB.kept hw).cell i
                      simp only [Gives]
                      go_simp
                      exact ⟨Below.refl _ _, rfl, fun h => by cases h⟩
                    refine And.intro (fun w hw hd => ?_) ?_
                    · refine ite_yes rfl ?_
                      simp only [Gives]
                      go_simp
                      exact ⟨Below.refl _ _, rfl, fun h => by cases h⟩
                    refine And.intro (fun w hw hd => ?_) ?_
                    · have d1 := hd 1 (by decide) rfl
                      change vs 1 = _ at d1
                      have d2 := hd 2 (by decide) rfl
                      change vs 2 = _ at d2
                      refine ite_yes rfl ?_
                      simp only [Gives]
                      go_simp
                      exact ⟨Below.refl _ _, rfl, fun h => by cases h⟩
                    refine And.intro (fun w hw hd => ?_) ?_
                    · have d3 := hd 3 (by decide) rfl
                      change vs 3 = _ at d3
                      refine ite_yes rfl ?_
                      have c_BB := fun i => (BB.kept hw).cell i
                      have q9 : w.cell? ⟨b3, k, none⟩ = some (.slice (some ⟨b5, 0, none⟩) zs.length pz) := own_cell (HC.out.kept hw).o3 (by rw [List.getElem?_map, List.getElem?_set_self HKC.out]; rfl)
                      simp only [Gives]
                      go_simp
                      exact ⟨Below.refl _ _, rfl, fun h => by cases h⟩
                    refine And.intro (fun w hw hd => ?_) ?_
                    · refine ite_yes rfl ?_
                      simp only [Gives]
                      go_simp
                      exact ⟨Below.refl _ _, rfl, fun h => by cases h⟩
                    refine And.intro (fun w hw hd => ?_) ?_
                    · refine ite_yes rfl ?_
                      simp only [Gives]
                      go_simp
                      exact ⟨Below.refl _ _, rfl, fun h => by cases h⟩
                    refine And.intro (fun w hw hd => ?_) ?_
                    · have d6 := hd 6 (by decide) rfl
                      change vs 6 = _ at d6
                      refine ite_yes rfl ?_
                      have c_BB := fun i => (BB.kept hw).cell i
                      simp only [Gives]
                      go_simp
                      exact ⟨Below.refl _ _, rfl, fun h => by cases h⟩
                    refine And.intro (fun w hw hd => ?_) ?_
                    · refine ite_yes rfl ?_
                      simp only [Gives]
                      go_simp
                      exact ⟨Below.refl _ _, rfl, fun h => by cases h⟩
                    refine And.intro (fun w hw hd => ?_) ?_
                    · have d7 := hd 7 (by decide) rfl
                      change vs 7 = _ at d7
                      have d8 := hd 8 (by decide) rfl
                      change vs 8 = _ at d8
                      refine ite_yes rfl ?_
                      simp only [Gives]
                      go_simp
                      exact ⟨Below.refl _ _, rfl, fun h => by cases h⟩
                    refine And.intro (fun w hw hd => ?_) ?_
                    · have d9 := hd 9 (by decide) rfl
                      change vs 9 = _ at d9
                      refine ite_yes rfl ?_
                      have c_BB := fun i => (BB.kept hw).cell i
                      have q9 : w.cell? ⟨b3, k, none⟩ = some (.slice (some ⟨b5, 0, none⟩) zs.length pz) := own_cell (HC.out.kept hw).o3 (by rw [List.getElem?_map, List.getElem?_set_self HKC.out]; rfl)
                      simp only [Gives]
                      go_simp
                      exact ⟨Below.refl _ _, rfl, fun h => by cases h⟩
                    refine And.intro (fun w hw hd => ?_) ?_
                    · refine ite_yes rfl ?_
                      simp only [Gives]
                      go_simp
                      exact ⟨Below.refl _ _, rfl, fun h => by cases h⟩
                    refine And.intro (fun w hw hd => ?_) ?_
                    · have d10 := hd 10 (by decide) rfl
                      change vs 10 = _ at d10
                      have d11 := hd 11 (by decide) rfl
                      change vs 11 = _ at d11
                      refine ite_yes rfl ?_
                      simp only [Gives]
                      go_simp
                      exact ⟨Below.refl _ _, rfl, fun h => by cases h⟩
                    refine And.intro (fun w hw hd => ?_) ?_
                    · have d12 := hd 12 (by decide) rfl
                      change vs 12 = _ at d12
                      refine ite_yes rfl ?_
                      simp only [Gives]
                      go_simp
                      exact ⟨Below.refl _ _, rfl, fun h => by cases h⟩
                    refine And.intro (fun w hw hd => ?_) ?_
                    · have d13 := hd 13 (by decide) rfl
                      change vs 13 = _ at d13
                      refine ite_yes rfl ?_
                      have c_BB := fun i => (BB.kept hw).cell i
                      have C := HC.out.kept hw
                      have q0 : w.cell? ⟨b5, m * 8, none⟩ = some (iv s.w.x1) := clCell (j := 0) C CK.out (upd_at HS.out) (by rw [upd_len]; omega) rfl
                      have q1 : w.cell? ⟨b5, m * 8 + 1, none⟩ = some (iv s.w.y1) := clCell (j := 1) C CK.out (upd_at HS.out) (by rw [upd_len]; omega) rfl
                      have q2 : w.cell? ⟨b5, m * 8 + 2, none⟩ = some (iv s.w.x2) := clCell (j := 2) C CK.out (upd_at HS.out) (by rw [upd_len]; omega) rfl
                      have q3 : w.cell? ⟨b5, m * 8 + 3, none⟩ = some (iv s.w.y2) := clCell (j := 3) C CK.out (upd_at HS.out) (by rw [upd_len]; omega) rfl
                      have q4 : w.cell? ⟨b5, m * 8 + 4, none⟩ = some (iv s.w.b) := clCell (j := 4) C CK.out (upd_at HS.out) (by rw [upd_len]; omega) rfl
                      have q5 : w.cell? ⟨b5, m * 8 + 5, none⟩ = some (iv s.w.t) := clCell (j := 5) C CK.out (upd_at HS.out) (by rw [upd_len]; omega) rfl
                      simp only [Gives]
                      go_simp
                      exact ⟨Below.refl _ _, rfl, fun h => by cases h⟩
                    refine And.intro (fun w hw hd => ?_) ?_
                    · refine ite_yes rfl ?_
                      simp only [Gives]
                      go_simp
                      exact ⟨Below.refl _ _, rfl, fun h => by cases h⟩
                    refine And.intro (fun w hw hd => ?_) ?_
                    · refine ite_yes rfl ?_
                      simp only [Gives]
                      go_simp
                      exact ⟨Below.refl _ _, rfl, fun h => by cases h⟩
                    refine And.intro (fun w hw hd => ?_) ?_
                    · refine ite_yes rfl ?_
                      simp only [Gives]
                      go_simp
                      exact ⟨Below.refl _ _, rfl, fun h => by cases h⟩
                    refine And.intro (fun w hw hd => ?_) ?_
                    · have d14 := hd 14 (by decide) rfl
                      change vs 14 = _ at d14
                      have d15 := hd 15 (by decide) rfl
                      change vs 15 = _ at d15
                      have d16 := hd 16 (by decide) rfl
                      change vs 16 = _ at d16
                      have d17 := hd 17 (by decide) rfl
                      change vs 17 = _ at d17
                      refine ite_yes rfl ?_
                      simp only [Gives]
                      go_simp
                      refine (moved_any s.w e n false _ V1.out V2.out V3.out V4.out ⟨e1, e2⟩ ⟨n1, n2⟩).mono ?_
                      rintro e w1 ⟨rfl, hb⟩
                      exact ⟨_, rfl, hb, rfl, fun h => by cases h⟩
                    refine And.intro (fun w hw hd => ?_) ?_
                    · have d4 := hd 4 (by decide) rfl
                      change vs 4 = _ at d4
                      have d5 := hd 5 (by decide) rfl
                      change vs 5 = _ at d5
                      refine ite_yes rfl ?_
                      simp only [Gives]
                      go_simp
                      exact ⟨Below.refl _ _, rfl, fun h => by cases h⟩
                    refine And.intro (fun w hw hd => ?_) ?_
                    · have d19 := hd 19 (by decide) rfl
                      change vs 19 = _ at d19
                      refine ite_yes rfl ?_
                      simp only [Gives]
                      go_simp
                      exact ⟨Below.refl _ _, rfl, fun h => by cases h⟩
                    exact trivial
                  intro vs wt hw hd hne hlo
                  have d0 := hd 0 (by decide)
                  change vs 0 = _ at d0
                  have d1 := hd 1 (by decide)
                  change vs 1 = _ at d1
                  have d2 := hd 2 (by decide)
                  change vs 2 = _ at d2
                  have d3 := hd 3 (by decide)
                  change vs 3 = _ at d3
                  have d4 := hd 4 (by decide)
                  change vs 4 = _ at d4
                  have d5 := hd 5 (by decide)
                  change vs 5 = _ at d5
                  have d6 := hd 6 (by decide)
                  change vs 6 = _ at d6
                  have d7 := hd 7 (by decide)
                  change vs 7 = _ at d7
                  have d8 := hd 8 (by decide)
                  change vs 8 = _ at d8
                  have d9 := hd 9 (by decide)
                  change vs 9 = _ at d9
                  have d10 := hd 10 (by decide)
                  change vs 10 = _ at d10
                  have d11 := hd 11 (by decide)
                  change vs 11 = _ at d11
                  have d12 := hd 12 (by decide)
                  change vs 12 = _ at d12
                  have d13 := hd 13 (by decide)
                  change vs 13 = _ at d13
                  have d14 := hd 14 (by decide)
                  change vs 14 = _ at d14
                  have d15 := hd 15 (by decide)
                  change vs 15 = _ at d15
                  have d16 := hd 16 (by decide)
                  change vs 16 = _ at d16
                  have d17 := hd 17 (by decide)
                  change vs 17 = _ at d17
                  have d18 := hd 18 (by decide)
                  change vs 18 = _ at d18
                  have d19 := hd 19 (by decide)
                  change vs 19 = _ at d19
                  have d20 := hd 20 (by decide)
                  change vs 20 = _ at d20
                  simp only [d0, d1, d2, d3, d4, d5, d6, d7, d8, d9, d10, d11, d12, d13, d14, d15, d16, d17, d18, d19, d20, List.drop_succ_cons, List.drop_zero]
                  have BB := BB.kept hw
                  have c_BB := fun i => BB.cell i
                  have f_BB := fun i => BB.free i
                  clear hd hne hlo d0 d1 d2 d3 d4 d5 d6 d7 d8 d9 d10 d11 d12 d13 d14 d15 d16 d17 d18 d19 d20
                  have hb := hw
                  clear BB c_BB f_BB hw
                  have HB := Lib.hid (up_later HB.out hb)
                  have BX := Lib.hid (BX.out.kept hb)
                  have XB := Lib.hid (XB.out.kept hb)
                  have HC := Lib.hid (HC.out.kept hb)
                  clear hb
                  have C := HC.out
                  have q0 : wt.cell? ⟨b5, m * 8, none⟩ = some (iv s.w.x1) := clCell (j := 0) C CK.out (upd_at HS.out) (by rw [upd_len]; omega) rfl
                  have q1 : wt.cell? ⟨b5, m * 8 + 1, none⟩ = some (iv s.w.y1) := clCell (j := 1) C CK.out (upd_at HS.out) (by rw [upd_len]; omega) rfl
                  have q2 : wt.cell? ⟨b5, m * 8 + 2, none⟩ = some (iv s.w.x2) := clCell (j := 2) C CK.out (upd_at HS.out) (by rw [upd_len]; omega) rfl
                  have q3 : wt.cell? ⟨b5, m * 8 + 3, none⟩ = some (iv s.w.y2) := clCell (j := 3) C CK.out (upd_at HS.out) (by rw [upd_len]; omega) rfl
                  have q4 : wt.cell? ⟨b5, m * 8 + 4, none⟩ = some (iv s.w.b) := clCell (j := 4) C CK.out (upd_at HS.out) (by rw [upd_len]; omega) rfl
                  have q5 : wt.cell? ⟨b5, m * 8 + 5, none⟩ = some (iv s.w.t) := clCell (j := 5) C CK.out (upd_at HS.out) (by rw [upd_len]; omega) rfl
                  have f0 : ∀ i : Nat, wt.frozen? ⟨b5, i, none⟩ = false := fun i => own_free (p := i) (C.each _ (List.mem_of_getElem? CK.out))
                  have Q := C.putCl6 (x := mvWl e n false s.w) CK.out (upd_at HS.out) (by decide) (by decide) (by decide) (by decide)
                  rw [show (⟨mvWl e n false s.w, s.f, s.t⟩ : Cl) = mvCl e n false s from rfl, upd_set HS.out, List.set_set] at Q
                  unfold setCs at Q
                  simp only [List.set_set] at Q
                  have HQ := Lib.hid Q
                  have hg6 : wt.grownBy ((((((wt.setCell ⟨b5, m * 8, none⟩ (iv (mvWl e n false s.w).x1)).setCell ⟨b5, m * 8 + 1, none⟩ (iv (mvWl e n false s.w).y1)).setCell ⟨b5, m * 8 + 2, none⟩ (iv (mvWl e n false s.w).x2)).setCell ⟨b5, m * 8 + 3, none⟩ (iv (mvWl e n false s.w).y2)).setCell ⟨b5, m * 8 + 4, none⟩ (iv (mvWl e n false s.w).b)).setCell ⟨b5, m * 8 + 5, none⟩ (iv (mvWl e n false s.w).t)) (some b5) := (((((grownBy_set _ _ _ _).trans (grownBy_set _ _ _ _)).trans (grownBy_set _ _ _ _)).trans (grownBy_set _ _ _ _)).trans (grownBy_set _ _ _ _)).trans (grownBy_set _ _ _ _)
                  have HG := Lib.hid hg6
                  clear C Q hg6 Hq3
                  go_wp2_with fail
                  clear q0 q1 q2 q3 q4 q5 f0
                  have XB := Lib.hid (XB.out.grown HG.out (fun h => by have h2 : y2.heap.size = b5 := Option.some.inj h; omega))
                  have BX := Lib.hid (BX.out.grown HG.out (fun h => by have h2 : w.heap.size = b5 := Option.some.inj h; omega))
                  have HB := Lib.hid (HB.out.grown HG.out HB.out.size (fun b h => by have h2 : b5 = b := Option.some.inj h; omega))
                  exact ⟨⟨m + 1, by omega, by go_num, HB.out, BX.out, XB.out, HQ.out⟩, by simp [intOf]; omega⟩
                · obtain rfl : m = zs.length := by omega
                  rw [upd_all] at HC
                  rw [show (.slice Fz zs.length pz, zs.map (mvCl e n false)) = (fun x : Value × List Cl => (x.1, x.2.map (mvCl e n false))) (.slice Fz zs.length pz, zs) from rfl, upd_set HCK.out] at HC
                  rw [show zs.map (mvCl e n false) = (fun l : List Cl => l.map (mvCl e n false)) zs from rfl, upd_set HZ.out] at HC
                  have BB := XB.out
                  have cB := fun i => BB.cell i
                  have hq3 := Hq3.out
                  go_wp2_with fail
                  exact ⟨⟨k + 1, by omega, by go_num, HB.out, BX.out, XB.out, HC.out⟩, by simp [intOf]; omega⟩
            · obtain rfl : k = L.cs.length := by omega
              rw [upd_all, upd_full HCXL.out] at HC
              have BB := XB.out
              have cB := fun i => BB.cell i
              go_upto_region 25 with fail
              clear cB BB
              go_loopw [21] (fun i wr => i = .int .i64 0 ∧ Hid (Below w.heap.size w wr) ∧ Hid (Box wr w.heap.size 27 #[.slice A1 L.st.length cap1, .slice A2 L.rg.length cap2, .slice A3 c.length cap3, .slice A4 L.sn.length cap4]) ∧ Hid (Box wr y2.heap.size 27 #[.slice (some ⟨b1, 0, none⟩) L.st.length p1, .slice F2 L.rg.length p2, .slice (some ⟨b3, 0, none⟩) L.cs.length p3, .slice F4 L.sn.length p4]) ∧ Hid (Cop 74 79 80 60 82 y1.heap.size ⟨L.st.map (mvSt e n false), L.rg.map (mvWl e n false), L.cs.map (fun l : List Cl => l.map (mvCl e n false)), L.sn⟩ wr (.slice (some ⟨b1, 0, none⟩) L.st.length p1) (.slice F2 L.rg.length p2) (.slice (some ⟨b3, 0, none⟩) L.cs.length p3) (.slice F4 L.sn.length p4) (cx.map (fun x : Value × List Cl => (x.1, x.2.map (mvCl e n false)))))) (fun _ _ => 0)
              case atStart => exact ⟨rfl, HB.out, BX.out, XB.out, HC.out⟩
              case round =>
                clear HB BX XB HC
                obtain ⟨rfl, HB, BX, XB, HC⟩ := hrel
                have hsn : L.sn.map (mvSn false) = L.sn := by
                  have : mvSn false = id := by funext s; rfl
                  rw [this, List.map_id]
                have h0s : (0 : Int) < (L.sn.length : Int) := by omega
                rw [show (⟨L.st.map (mvSt e n false), L.rg.map (mvWl e n false), L.cs.map (fun l : List Cl => l.map (mvCl e n false)), L.sn⟩ : Ld) = mvLd e n false L from by unfold mvLd; rw [hsn]] at HC
                clear hsn
                have HX := Lib.hid (show LandAt wr _ _ _ _ (mvLd e n false L) _ from HC.out.land (by simp [mvLd]; omega) (by simp [mvLd]; omega) (by simp [mvLd]; omega) (by simp [mvLd]; omega) (by
                  intro x hx
                  obtain ⟨z, hz, rfl⟩ := List.mem_map.1 hx
                  rw [List.length_map]
                  exact hlen.out z hz))
                have HT := Lib.hid (HT0.out.kept HB.out)
                clear HC
                have BB := XB.out
                have cB := fun i => BB.cell i
                go_wp2_with fail
                clear cB BB
                refine (Lfault_any _ _ _ _ (mvLd e n false L) _ _ HX.out).mono ?_
                rintro r y3 ⟨rfl, hb⟩
                have HB := Lib.hid (up_later HB.out hb)
                have HT := Lib.hid (HT.out.kept hb)
                have BX := Lib.hid (BX.out.kept hb)
                have XB := Lib.hid (XB.out.kept hb)
                have HX := Lib.hid (HX.out.kept hb)
                clear hb
                by_cases he9 : errI (mvLd e n false L) = 0
                · rw [he9]
                  have HA9 := Lib.hid (HAL.out false he9)
                  clear he9
                  have BB2 := BX.out
                  have cB2 := fun i => BB2.cell i
                  have BB := XB.out
                  have cB := fun i => BB.cell i
                  go_wp2_with fail
                  clear cB BB
                  clear cB2 BB2
                  refine (alike_any _ _ _ _ _ _ _ _ L (mvLd e n false L) c _ i j _ HT.out HX.out HA9.out).mono ?_
                  rintro r y4 ⟨rfl, hb⟩
                  have HB := Lib.hid (up_later HB.out hb)
                  clear hb
                  go_wp2_with fail
                  refine (awake_any _).mono ?_
                  rintro e y9 ⟨rfl, hb⟩
                  go_wp2_with fail
                  go_ret
                  exact ⟨by simp [go_sem], up_later HB.out hb⟩
                · have hne : (errI (mvLd e n false L) != 0) = true := by simpa using he9
                  go_wp2_with fail
                  refine (awake_any _).mono ?_
                  rintro e y9 ⟨rfl, hb⟩
                  go_wp2_with fail
                  go_ret
                  exact ⟨by simp [go_sem], up_later HB.out hb⟩

set_option maxRecDepth 100000 in
set_option maxHeartbeats 12000000 in
theorem moved_true (v1 v2 v3 v4 : Value) (L : Ld) (c : List (Value × List Cl)) (x y z : Int) (w : World) (hL : LandAny w v1 v2 v3 v4 L c) (hx : 0 ≤ x ∧ x ≤ 255) (hy : 0 ≤ y ∧ y ≤ 255) (hz : 0 ≤ z ∧ z ≤ 255) :
    Calls Try.prog 12 #[.agg #[v1, v2, v3, v4], .int .u8 x, .int .u8 y, .int .u8 z, .bool true] w fun e w' => e = .returned (.bool true) ∧ Below w.heap.size w w' := by
  obtain ⟨hy0, hy1⟩ := hy
  obtain ⟨hz0, hz1⟩ := hz
  have HA := Lib.hid hL
  obtain ⟨A1, cap1, rfl, _, _⟩ := hL.st.form
  obtain ⟨A2, cap2, rfl, _, _⟩ := hL.rg.form
  obtain ⟨A3, cap3, rfl, _, _⟩ := hL.cs.form
  obtain ⟨A4, cap4, rfl, _, _⟩ := hL.sn.form
  have Hcl := Lib.hid (show c.length = L.cs.length by rw [← hL.eq]; simp)
  clear hL
  cases hr : readyB L
  case false =>
    have Hr := Lib.hid hr
    clear hr
    go_enter Try.func12, Try.ntmps12
    go_wp2_with fail
    refine (Lready_any _ _ _ _ L c _ (HA.out.kept (up_alloc up0 _))).mono ?_
    rintro e y0 ⟨rfl, hb⟩
    rw [Hr.out]
    go_wp2_with fail
    refine (awake_any _).mono ?_
    rintro e y1 ⟨rfl, hb2⟩
    go_wp2_with fail
    go_ret
    exact ⟨rfl, up_later (up_later (up_alloc up0 _) hb) hb2⟩
  have hq := hr
  simp only [readyB, Bool.and_eq_true, beq_iff_eq, decide_eq_true_eq] at hq
  obtain ⟨⟨hth, he⟩, h1n⟩ := hq
  have hT := HA.out.thin hth
  have hok := land_ok he
  obtain ⟨_, hl6, hg6, hc0, hc4, hs0, hs12⟩ := hok.len
  have hcl := Hcl.out
  obtain ⟨i, hi, hin⟩ := nat_mod (x := x) (n := L.st.length) (by omega)
  obtain ⟨j, hj, hjn⟩ := nat_mod (x := x % (L.st.length : Int) + 1 + x / 8 % ((L.st.length : Int) - 1)) (n := L.st.length) (by omega)
  have hij : i ≠ j := by
    have h := mod_ne (n := (L.st.length : Int)) (x := x) (by omega)
    rw [hi] at h hj
    rw [hj] at h
    omega
  have o1 : ∀ k h : Nat, k < L.cs.length → h < L.sn.length → openI L k h [(i : Int), (j : Int)] = 0 := fun k h hk hh => open_zero he hin hjn hk hh hij
  have Hr := Lib.hid hr
  have HT0 := Lib.hid hT
  have Hpi := Lib.hid (show (pairI (L.st.length : Int) x).1 = i from hi)
  have Hpj := Lib.hid (show (pairI (L.st.length : Int) x).2 = j from hj)
  have hn1 : L.st.length ≤ 1000 := by omega
  have i0 : (0 : Int) ≤ (i : Int) := by omega
  have i1 : (i : Int) < (L.st.length : Int) := by omega
  have j0 : (0 : Int) ≤ (j : Int) := by omega
  have j1 : (j : Int) < (L.st.length : Int) := by omega
  have He := Lib.hid he
  have Hok := Lib.hid hok
  have hlen := Lib.hid (lens hT)
  have hcl1 : c.length ≤ 1000 := hT.cs.form.1
  have ey1 : 0 ≤ y % 40 := by omega
  have ey2 : y % 40 ≤ 39 := by omega
  have nz1 : 0 ≤ z % 40 := by omega
  have nz2 : z % 40 ≤ 39 := by omega
  obtain ⟨e, hee⟩ : ∃ e, y % 40 - 20 = e := ⟨_, rfl⟩
  obtain ⟨n, hnn⟩ : ∃ n, z % 40 - 20 = n := ⟨_, rfl⟩
  have e1 : -20 ≤ e := by omega
  have e2 : e ≤ 20 := by omega
  have n1 : -20 ≤ n := by omega
  have n2 : n ≤ 20 := by omega
  have HEE := Lib.hid hee
  have HNN := Lib.hid hnn
  have HAL := Lib.hid (fun q (hm : errI (mvLd e n q L) = 0) => alike_moved he hm hin hjn hij hc0 hs0)
  clear hr hT hok hi hj hth he hcl hee hnn
  go_enter Try.func12, Try.ntmps12
  go_wp2_with fail
  have BX := Lib.hid (Box.new (w := w) (t := 27) (cs := #[.slice A1 L.st.length cap1, .slice A2 L.rg.length cap2, .slice A3 c.length cap3, .slice A4 L.sn.length cap4]) rfl)
  have HB := Lib.hid (up_alloc (up0 (w := w)) (.cells #[.slice A1 L.st.length cap1, .slice A2 L.rg.length cap2, .slice A3 c.length cap3, .slice A4 L.sn.length cap4] 27))
  have HT := Lib.hid (HT0.out.kept HB.out)
  refine (Lready_any _ _ _ _ L c _ (HA.out.kept HB.out)).mono ?_
  rintro e y0 ⟨rfl, hb⟩
  rw [Hr.out]
  have HB := Lib.hid (up_later HB.out hb)
  have HT := Lib.hid (HT.out.kept hb)
  have BX := Lib.hid (BX.out.kept hb)
  clear hb
  have BB := BX.out
  have cB := fun i => BB.cell i
  go_wp2_with fail
  clear cB BB
  refine (Lpair_any _ L.st.length cap1 _ _ _ x _ h1n hn1 hx).mono ?_
  rintro e y1 ⟨rfl, hb⟩
  rw [Hpi.out, Hpj.out]
  have HB := Lib.hid (up_later HB.out hb)
  have HT := Lib.hid (HT.out.kept hb)
  have BX := Lib.hid (BX.out.kept hb)
  clear hb
  have BB := BX.out
  have cB := fun i => BB.cell i
  go_wp2_with fail
  clear cB BB
  refine (copied_any _ _ _ _ L c _ HT.out).mono ?_
  rintro r y2 ⟨u1, u2, u3, u4, cx, rfl, hcop, hb⟩
  obtain ⟨F1, m1, p1, rfl⟩ := own_form hcop.o1
  obtain ⟨F2, m2, p2, rfl⟩ := own_form hcop.o2
  obtain ⟨F3, m3, p3, rfl⟩ := own_form hcop.o3
  obtain ⟨F4, m4, p4, rfl⟩ := own_form hcop.o4
  obtain ⟨s9, hs9⟩ : ∃ s, L.st[0]? = some s := ⟨_, List.getElem?_eq_getElem (by omega)⟩
  obtain ⟨b1, f1, rfl, -, -⟩ := (hcop.land (by omega) (by omega) (by omega) (by omega) hlen.out).st.at rfl hs9
  obtain ⟨rfl, rfl, _⟩ := own_put (i := 0) (u := iv 0) hcop.o1
  have hb1 := hcop.o1.lt b1 rfl
  obtain ⟨hg1, _, _, h2, _, _⟩ := (hcop.land (by omega) (by omega) (by omega) (by omega) hlen.out).rg.form
  cases h2
  obtain ⟨_, _, _, h4, _, _⟩ := (hcop.land (by omega) (by omega) (by omega) (by omega) hlen.out).sn.form
  cases h4
  obtain ⟨_, _, _, h3, _, _⟩ := (hcop.land (by omega) (by omega) (by omega) (by omega) hlen.out).cs.form
  have hcxl : cx.length = L.cs.length := by rw [← hcop.ec]; simp
  rw [hcxl] at h3
  cases h3
  obtain ⟨z9, hz9⟩ : ∃ z, cx[0]? = some z := ⟨_, List.getElem?_eq_getElem (by omega)⟩
  obtain ⟨b3, f3, rfl, -, -⟩ := (hcop.land (by omega) (by omega) (by omega) (by omega) hlen.out).cs.at rfl hz9
  obtain ⟨h0, -, -⟩ := own_put (i := 0) (u := iv 0) hcop.o3
  subst h0
  have HCXL := Lib.hid hcxl
  have HCX := Lib.hid (fun (k : Nat) (zs : List Cl) (h : L.cs[k]? = some zs) => hcop.case h)
  have hb0 := up_alloc hb (.cells #[.slice (some ⟨b1, 0, none⟩) L.st.length p1, .slice F2 L.rg.length p2, .slice (some ⟨b3, 0, none⟩) L.cs.length p3, .slice F4 L.sn.length p4] 27)
  have HC := Lib.hid (hcop.kept (up_alloc up0 (.cells #[.slice (some ⟨b1, 0, none⟩) L.st.length p1, .slice F2 L.rg.length p2, .slice (some ⟨b3, 0, none⟩) L.cs.length p3, .slice F4 L.sn.length p4] 27)))
  have XB := Lib.hid (Box.new (w := y2) (t := 27) (cs := #[.slice (some ⟨b1, 0, none⟩) L.st.length p1, .slice F2 L.rg.length p2, .slice (some ⟨b3, 0, none⟩) L.cs.length p3, .slice F4 L.sn.length p4]) rfl)
  have hyn1 : w.heap.size + 1 ≤ y1.heap.size := BX.out.lt
  have hyn : y1.heap.size ≤ y2.heap.size := hb.size
  have HT := Lib.hid (HT.out.kept hb0)
  have BX := Lib.hid (BX.out.kept hb0)
  have HB := Lib.hid (up_later HB.out hb0)
  clear hb hb0 hcop hs9 hcxl hg1 hz9
  go_upto_region 6 with fail
  rw [HEE.out, HNN.out]
  clear ey1 ey2 nz1 nz2
  go_wp2_with fail
  go_loopw [16] (fun i wr => ∃ k : Nat, k ≤ L.st.length ∧ i = .int .i64 k ∧ Hid (Below w.heap.size w wr) ∧ Hid (Box wr w.heap.size 27 #[.slice A1 L.st.length cap1, .slice A2 L.rg.length cap2, .slice A3 c.length cap3, .slice A4 L.sn.length cap4]) ∧ Hid (Box wr y2.heap.size 27 #[.slice (some ⟨b1, 0, none⟩) L.st.length p1, .slice F2 L.rg.length p2, .slice (some ⟨b3, 0, none⟩) L.cs.length p3, .slice F4 L.sn.length p4]) ∧ Hid (Cop 74 79 80 60 82 y1.heap.size ⟨upd (mvSt e n true) k L.st, L.rg, L.cs, L.sn⟩ wr (.slice (some ⟨b1, 0, none⟩) L.st.length p1) (.slice F2 L.rg.length p2) (.slice (some ⟨b3, 0, none⟩) L.cs.length p3) (.slice F4 L.sn.length p4) cx)) (fun i _ => L.st.length - (intOf i).toNat)
  case atStart => exact ⟨0, by omega, rfl, HB.out, BX.out, XB.out, by rw [upd_zero]; exact HC.out⟩
  case round =>
    clear HB BX XB HC
    obtain ⟨k, hk, rfl, HB, BX, XB, HC⟩ := hrel
    have k0 : (0 : Int) ≤ (k : Int) := by omega
    by_cases hlt : k < L.st.length
    · have k1 : (k : Int) < (L.st.length : Int) := by omega
      obtain ⟨s, hs⟩ : ∃ s, L.st[k]? = some s := ⟨_, List.getElem?_eq_getElem hlt⟩
      have HS := Lib.hid hs
      obtain ⟨⟨v1, v2⟩, v3, v4⟩ := st_bd (List.all_eq_true.1 (sts_of He.out) s (List.mem_of_getElem? hs))
      have D1 : IntKind.i64.wrap (s.x + e) = s.x + e := wrapK_in _ 2000 (by omega) (by omega)
      have D2 : IntKind.i64.wrap (s.y + n) = s.y + n := wrapK_in _ 2000 (by omega) (by omega)
      clear hs
      have BB := XB.out
      have cB := fun i => BB.cell i
      go_upto_region 10 with fail
      clear cB BB
      have t1 := HC.out.putSt2 (s' := ⟨s.x + e, s.y, s.z, s.m⟩) (j := 0) (u := iv (s.x + e)) (upd_at HS.out) (by decide) rfl (by decide) (by decide) (by decide) (by decide)
      have g1 : ((upd (mvSt e n true) k L.st).set k ⟨s.x + e, s.y, s.z, s.m⟩)[k]? = some ⟨s.x + e, s.y, s.z, s.m⟩ := by rw [List.getElem?_set_self]; rw [upd_len]; exact hlt
      have t2 := t1.putSt2 (s' := ⟨s.x + e, s.y + n, s.z, s.m⟩) (j := 1) (u := iv (s.y + n)) g1 (by decide) rfl (by decide) (by decide) (by decide) (by decide)
      have G1 := Lib.hid g1
      have T1 := Lib.hid t1
      have T2 := Lib.hid t2
      clear t1 t2 g1
      apply wp_region_puts 20 [(16, ⟨b1, k * 4, none⟩, iv (s.x + e)), (19, ⟨b1, k * 4 + 1, none⟩, iv (s.y + n))] [_, _, _, _, _, _, _, _, _, _, _, _, _, _, _, _, undef, _, _, undef]
      case hm => kernel_rfl
      case hB => kernel_rfl
      case hS => kernel_rfl
      case hA => (intro vs; simp only [List.take_succ_cons, List.take_zero, putAll, if_true, Act.put, List.setIfInBounds_toArray, List.set_cons_zero, List.set_cons_succ]; exact rfl)
      case hstep =>
        intro vs
        refine And.intro (fun _ w hz hE hd => ?_) ?_
        · refine And.intro rfl ?_
          simp only [Gives]
          go_simp
          exact ⟨Below.refl _ _, rfl⟩
        refine And.intro (fun _ w hz hE hd => ?_) ?_
        · refine And.intro rfl ?_
          simp only [Gives]
          go_simp
          exact ⟨Below.refl _ _, rfl⟩
        refine And.intro (fun _ w hz hE hd => ?_) ?_
        · refine And.intro rfl ?_
          simp only [Gives]
          go_simp
          exact ⟨Below.refl _ _, rfl⟩
        refine And.intro (fun _ w hz hE hd => ?_) ?_
        · have d2 := hd 2 (by decide) rfl rfl
          change vs 2 = _ at d2
          refine And.intro rfl ?_
          simp only [Gives]
          go_simp
          exact ⟨Below.refl _ _, rfl⟩
        refine And.intro (fun _ w hz hE hd => ?_) ?_
        · have d3 := hd 3 (by decide) rfl rfl
          change vs 3 = _ at d3
          refine And.intro rfl ?_
          simp only [Gives]
          go_simp
          exact ⟨Below.refl _ _, rfl⟩
        refine And.intro (fun _ w hz hE hd => ?_) ?_
        · have d4 := hd 4 (by decide) rfl rfl
          change vs 4 = _ at d4
          refine And.intro rfl ?_
          obtain ⟨j, hj, hno, hw⟩ := hE
          obtain rfl := first_put hno (by kernel_rfl)
          simp only [List.take_zero, putsTo] at hw
          have q0 : w.cell? ⟨b1, k * 4, none⟩ = some (iv s.x) := stCell (j := 0) (HC.out.kept hw) (upd_at HS.out) (by rw [upd_len]; omega) rfl
          simp only [Gives]
          go_simp
          exact ⟨Below.refl _ _, rfl⟩
        refine And.intro (fun _ w hz hE hd => ?_) ?_
        · refine And.intro rfl ?_
          simp only [Gives]
          go_simp
          exact ⟨Below.refl _ _, rfl⟩
        refine And.intro (fun _ w hz hE hd => ?_) ?_
        · have d5 := hd 5 (by decide) rfl rfl
          change vs 5 = _ at d5
          have d6 := hd 6 (by decide) rfl rfl
          change vs 6 = _ at d6
          refine And.intro rfl ?_
          simp only [Gives]
          go_simp
          exact ⟨Below.refl _ _, rfl⟩
        refine And.intro (fun _ w hz hE hd => ?_) ?_
        · refine And.intro rfl ?_
          simp only [Gives]
          go_simp
          exact ⟨Below.refl _ _, rfl⟩
        refine And.intro (fun _ w hz hE hd => ?_) ?_
        · have d8 := hd 8 (by decide) rfl rfl
          change vs 8 = _ at d8
          refine And.intro rfl ?_
          simp only [Gives]
          go_simp
          exact ⟨Below.refl _ _, rfl⟩
        refine And.intro (fun _ w hz hE hd => ?_) ?_
        · have d9 := hd 9 (by decide) rfl rfl
          change vs 9 = _ at d9
          refine And.intro rfl ?_
          simp only [Gives]
          go_simp
          exact ⟨Below.refl _ _, rfl⟩
        refine And.intro (fun _ w hz hE hd => ?_) ?_
        · have d10 := hd 10 (by decide) rfl rfl
          change vs 10 = _ at d10
          refine And.intro rfl ?_
          obtain ⟨j, hj, hno, hw⟩ := hE
          have q0 : w.cell? ⟨b1, k * 4 + 1, none⟩ = some (iv s.y) := (second_put hj hno (by kernel_rfl)).elim (fun h => (by subst h; simp only [List.take_zero, putsTo] at hw; exact stCell (j := 1) (HC.out.kept hw) (upd_at HS.out) (by rw [upd_len]; omega) rfl)) (fun h => (by subst h; simp only [List.take_succ_cons, List.take_zero, putsTo] at hw; exact stCell (j := 1) (T1.out.kept (hw.mono (by simp [World.setCell]))) G1.out (by rw [List.length_set, upd_len]; omega) rfl))
          simp only [Gives]
          go_simp
          exact ⟨Below.refl _ _, rfl⟩
        refine And.intro (fun _ w hz hE hd => ?_) ?_
        · refine And.intro rfl ?_
          simp only [Gives]
          go_simp
          exact ⟨Below.refl _ _, rfl⟩
        refine And.intro (fun _ w hz hE hd => ?_) ?_
        · have d11 := hd 11 (by decide) rfl rfl
          change vs 11 = _ at d11
          have d12 := hd 12 (by decide) rfl rfl
          change vs 12 = _ at d12
          refine And.intro rfl ?_
          simp only [Gives]
          go_simp
          exact ⟨Below.refl _ _, rfl⟩
        refine And.intro (fun _ w hz hE hd => ?_) ?_
        · have d0 := hd 0 (by decide) rfl rfl
          change vs 0 = _ at d0
          refine And.intro rfl ?_
          simp only [Gives]
          go_simp
          exact ⟨Below.refl _ _, rfl⟩
        refine And.intro (fun _ w hz hE hd => ?_) ?_
        · have d14 := hd 14 (by decide) rfl rfl
          change vs 14 = _ at d14
          refine And.intro rfl ?_
          simp only [Gives]
          go_simp
          exact ⟨Below.refl _ _, rfl⟩
        refine And.intro (fun h => by cases h) ?_
        refine And.intro (fun _ w hz hE hd => ?_) ?_
        · have d1 := hd 1 (by decide) rfl rfl
          change vs 1 = _ at d1
          refine And.intro rfl ?_
          simp only [Gives]
          go_simp
          exact ⟨Below.refl _ _, rfl⟩
        refine And.intro (fun _ w hz hE hd => ?_) ?_
        · have d17 := hd 17 (by decide) rfl rfl
          change vs 17 = _ at d17
          refine And.intro rfl ?_
          simp only [Gives]
          go_simp
          exact ⟨Below.refl _ _, rfl⟩
        refine And.intro (fun h => by cases h) ?_
        exact trivial
      case hp =>
        intro vs m x o hx ho w hw hd
        rcases m with _ | _ | m
        · obtain rfl := Option.some.inj hx
          obtain rfl := Option.some.inj ho
          have d15 := hd 15 (by decide) rfl rfl
          change vs 15 = _ at d15
          have d7 := hd 7 (by decide) rfl rfl
          change vs 7 = _ at d7
          simp only [List.take_zero, putsTo] at hw
          refine And.intro rfl ?_
          have C := HC.out.kept hw
          have q0 : w.cell? ⟨b1, k * 4, none⟩ = some (iv s.x) := stCell (j := 0) C (upd_at HS.out) (by rw [upd_len]; omega) rfl
          have f0 : w.frozen? ⟨b1, k * 4, none⟩ = false := own_free C.o1
          simp only [Gives]
          go_simp
          exact rfl
        · obtain rfl := Option.some.inj hx
          obtain rfl := Option.some.inj ho
          have d18 := hd 18 (by decide) rfl rfl
          change vs 18 = _ at d18
          have d13 := hd 13 (by decide) rfl rfl
          change vs 13 = _ at d13
          simp only [List.take_succ_cons, List.take_zero, putsTo] at hw
          refine And.intro rfl ?_
          have C := T1.out.kept (hw.mono (by simp [World.setCell]))
          have q0 : w.cell? ⟨b1, k * 4 + 1, none⟩ = some (iv s.y) := stCell (j := 1) C G1.out (by rw [List.length_set, upd_len]; omega) rfl
          have f0 : w.frozen? ⟨b1, k * 4 + 1, none⟩ = false := own_free C.o1
          simp only [Gives]
          go_simp
          exact rfl
        · simp at hx
      intro vs wt hw hd
      simp only [putsTo] at hw
      have d0 := hd 0 (by decide) rfl
      change vs 0 = _ at d0
      have d1 := hd 1 (by decide) rfl
      change vs 1 = _ at d1
      have d2 := hd 2 (by decide) rfl
      change vs 2 = _ at d2
      have d3 := hd 3 (by decide) rfl
      change vs 3 = _ at d3
      have d4 := hd 4 (by decide) rfl
      change vs 4 = _ at d4
      have d5 := hd 5 (by decide) rfl
      change vs 5 = _ at d5
      have d6 := hd 6 (by decide) rfl
      change vs 6 = _ at d6
      have d7 := hd 7 (by decide) rfl
      change vs 7 = _ at d7
      have d8 := hd 8 (by decide) rfl
      change vs 8 = _ at d8
      have d9 := hd 9 (by decide) rfl
      change vs 9 = _ at d9
      have d10 := hd 10 (by decide) rfl
      change vs 10 = _ at d10
      have d11 := hd 11 (by decide) rfl
      change vs 11 = _ at d11
      have d12 := hd 12 (by decide) rfl
      change vs 12 = _ at d12
      have d13 := hd 13 (by decide) rfl
      change vs 13 = _ at d13
      have d14 := hd 14 (by decide) rfl
      change vs 14 = _ at d14
      have d15 := hd 15 (by decide) rfl
      change vs 15 = _ at d15
      have d17 := hd 17 (by decide) rfl
      change vs 17 = _ at d17
      have d18 := hd 18 (by decide) rfl
      change vs 18 = _ at d18
      simp only [d0, d1, d2, d3, d4, d5, d6, d7, d8, d9, d10, d11, d12, d13, d14, d15, d17, d18, List.drop_succ_cons, List.drop_nil]
      clear hd d0 d1 d2 d3 d4 d5 d6 d7 d8 d9 d10 d11 d12 d13 d14 d15 d17 d18
      have Q := T2.out.kept (hw.mono (by simp [World.setCell]))
      rw [List.set_set] at Q
      have hg4 : wr.grownBy ((wr.setCell ⟨b1, k * 4, none⟩ (iv (s.x + e))).setCell ⟨b1, k * 4 + 1, none⟩ (iv (s.y + n))) (some b1) := (grownBy_set _ _ _ _).trans (grownBy_set _ _ _ _)
      have hg5 := hg4.trans ((grown_of_below (hw.mono (by simp [World.setCell]))).but _)
      have XB := Lib.hid (XB.out.grown hg5 (fun h => by have h2 : y2.heap.size = b1 := Option.some.inj h; omega))
      have BX := Lib.hid (BX.out.grown hg5 (fun h => by have h2 : w.heap.size = b1 := Option.some.inj h; omega))
      have HB := Lib.hid (HB.out.grown hg5 HB.out.size (fun b h => by have h2 : b1 = b := Option.some.inj h; omega))
      have HC := Lib.hid Q
      clear Q hg4 hg5 hw T1 T2
      go_upto_region 12 with fail
      obtain ⟨wp, rfl⟩ : ∃ x : World, x = wt := ⟨_, rfl⟩
      have g2 : ((upd (mvSt e n true) k L.st).set k ⟨s.x + e, s.y + n, s.z, s.m⟩)[k]? = some ⟨s.x + e, s.y + n, s.z, s.m⟩ := by rw [List.getElem?_set_self]; rw [upd_len]; exact hlt
      have g3 : ((upd (mvSt e n true) k L.st).set k ⟨s.y + n, s.y + n, s.z, s.m⟩)[k]? = some ⟨s.y + n, s.y + n, s.z, s.m⟩ := by rw [List.getElem?_set_self]; rw [upd_len]; exact hlt
      have t3 := HC.out.putSt2 (s' := ⟨s.y + n, s.y + n, s.z, s.m⟩) (j := 0) (u := iv (s.y + n)) g2 (by decide) rfl (by decide) (by decide) (by decide) (by decide)
      rw [List.set_set] at t3
      have t4 := t3.putSt2 (s' := ⟨s.y + n, s.x + e, s.z, s.m⟩) (j := 1) (u := iv (s.x + e)) g3 (by decide) rfl (by decide) (by decide) (by decide) (by decide)
      rw [List.set_set] at t4
      have G2 := Lib.hid g2
      have G3 := Lib.hid g3
      have T3 := Lib.hid t3
      have T4 := Lib.hid t4
      clear t3 t4 g2 g3
      apply wp_region_puts 16 [(12, ⟨b1, k * 4, none⟩, iv (s.y + n)), (15, ⟨b1, k * 4 + 1, none⟩, iv (s.x + e))] [_, _, _, _, _, _, _, _, _, _, _, _, undef, _, _, undef]
      case hm => kernel_rfl
      case hB => kernel_rfl
      case hS => kernel_rfl
      case hA => (intro vs; simp only [List.take_succ_cons, List.take_zero, putAll, if_true, Act.put, List.setIfInBounds_toArray, List.set_cons_zero, List.set_cons_succ]; exact rfl)
      case hstep =>
        intro vs
        refine And.intro (fun _ w hz hE hd => ?_) ?_
        · refine And.intro rfl ?_
          simp only [Gives]
          go_simp
          exact ⟨Below.refl _ _, rfl⟩
        refine And.intro (fun _ w hz hE hd => ?_) ?_
        · refine And.intro rfl ?_
          simp only [Gives]
          go_simp
          exact ⟨Below.refl _ _, rfl⟩
        refine And.intro (fun _ w hz hE hd => ?_) ?_
        · refine And.intro rfl ?_
          simp only [Gives]
          go_simp
          exact ⟨Below.refl _ _, rfl⟩
        refine And.intro (fun _ w hz hE hd => ?_) ?_
        · have d2 := hd 2 (by decide) rfl rfl
          change vs 2 = _ at d2
          refine And.intro rfl ?_
          simp only [Gives]
          go_simp
          exact ⟨Below.refl _ _, rfl⟩
        refine And.intro (fun _ w hz hE hd => ?_) ?_
        · have d3 := hd 3 (by decide) rfl rfl
          change vs 3 = _ at d3
          refine And.intro rfl ?_
          simp only [Gives]
          go_simp
          exact ⟨Below.refl _ _, rfl⟩
        refine And.intro (fun _ w hz hE hd => ?_) ?_
        · have d4 := hd 4 (by decide) rfl rfl
          change vs 4 = _ at d4
          refine And.intro rfl ?_
          obtain ⟨j, hj, hno, hw⟩ := hE
          obtain rfl := first_put hno (by kernel_rfl)
          simp only [List.take_zero, putsTo] at hw
          have q0 : w.cell? ⟨b1, k * 4 + 1, none⟩ = some (iv (s.y + n)) := stCell (j := 1) (HC.out.kept hw) G2.out (by rw [List.length_set, upd_len]; omega) rfl
          simp only [Gives]
          go_simp
          exact ⟨Below.refl _ _, rfl⟩
        refine And.intro (fun _ w hz hE hd => ?_) ?_
        · refine And.intro rfl ?_
          simp only [Gives]
          go_simp
          exact ⟨Below.refl _ _, rfl⟩
        refine And.intro (fun _ w hz hE hd => ?_) ?_
        · have d6 := hd 6 (by decide) rfl rfl
          change vs 6 = _ at d6
          refine And.intro rfl ?_
          simp only [Gives]
          go_simp
          exact ⟨Below.refl _ _, rfl⟩
        refine And.intro (fun _ w hz hE hd => ?_) ?_
        · have d7 := hd 7 (by decide) rfl rfl
          change vs 7 = _ at d7
          refine And.intro rfl ?_
          simp only [Gives]
          go_simp
          exact ⟨Below.refl _ _, rfl⟩
        refine And.intro (fun _ w hz hE hd => ?_) ?_
        · have d8 := hd 8 (by decide) rfl rfl
          change vs 8 = _ at d8
          refine And.intro rfl ?_
          obtain ⟨j, hj, hno, hw⟩ := hE
          obtain rfl := first_put hno (by kernel_rfl)
          simp only [List.take_zero, putsTo] at hw
          have q0 : w.cell? ⟨b1, k * 4, none⟩ = some (iv (s.x + e)) := stCell (j := 0) (HC.out.kept hw) G2.out (by rw [List.length_set, upd_len]; omega) rfl
          simp only [Gives]
          go_simp
          exact ⟨Below.refl _ _, rfl⟩
        refine And.intro (fun _ w hz hE hd => ?_) ?_
        · have d0 := hd 0 (by decide) rfl rfl
          change vs 0 = _ at d0
          refine And.intro rfl ?_
          simp only [Gives]
          go_simp
          exact ⟨Below.refl _ _, rfl⟩
        refine And.intro (fun _ w hz hE hd => ?_) ?_
        · have d10 := hd 10 (by decide) rfl rfl
          change vs 10 = _ at d10
          refine And.intro rfl ?_
          simp only [Gives]
          go_simp
          exact ⟨Below.refl _ _, rfl⟩
        refine And.intro (fun h => by cases h) ?_
        refine And.intro (fun _ w hz hE hd => ?_) ?_
        · have d1 := hd 1 (by decide) rfl rfl
          change vs 1 = _ at d1
          refine And.intro rfl ?_
          simp only [Gives]
          go_simp
          exact ⟨Below.refl _ _, rfl⟩
        refine And.intro (fun _ w hz hE hd => ?_) ?_
        · have d13 := hd 13 (by decide) rfl rfl
          change vs 13 = _ at d13
          refine And.intro rfl ?_
          simp only [Gives]
          go_simp
          exact ⟨Below.refl _ _, rfl⟩
        refine And.intro (fun h => by cases h) ?_
        exact trivial
      case hp =>
        intro vs m x o hx ho w hw hd
        rcases m with _ | _ | m
        · obtain rfl := Option.some.inj hx
          obtain rfl := Option.some.inj ho
          have d11 := hd 11 (by decide) rfl rfl
          change vs 11 = _ at d11
          have d5 := hd 5 (by decide) rfl rfl
          change vs 5 = _ at d5
          simp only [List.take_zero, putsTo] at hw
          refine And.intro rfl ?_
          have C := HC.out.kept hw
          have q0 : w.cell? ⟨b1, k * 4, none⟩ = some (iv (s.x + e)) := stCell (j := 0) C G2.out (by rw [List.length_set, upd_len]; omega) rfl
          have f0 : w.frozen? ⟨b1, k * 4, none⟩ = false := own_free C.o1
          simp only [Gives]
          go_simp
          exact rfl
        · obtain rfl := Option.some.inj hx
          obtain rfl := Option.some.inj ho
          have d14 := hd 14 (by decide) rfl rfl
          change vs 14 = _ at d14
          have d9 := hd 9 (by decide) rfl rfl
          change vs 9 = _ at d9
          simp only [List.take_succ_cons, List.take_zero, putsTo] at hw
          refine And.intro rfl ?_
          have C := T3.out.kept (hw.mono (by simp [World.setCell]))
          have q0 : w.cell? ⟨b1, k * 4 + 1, none⟩ = some (iv (s.y + n)) := stCell (j := 1) C G3.out (by rw [List.length_set, upd_len]; omega) rfl
          have f0 : w.frozen? ⟨b1, k * 4 + 1, none⟩ = false := own_free C.o1
          simp only [Gives]
          go_simp
          exact rfl
        · simp at hx
      intro vs wt hw hd
      simp only [putsTo] at hw
      have d0 := hd 0 (by decide) rfl
      change vs 0 = _ at d0
      have d1 := hd 1 (by decide) rfl
      change vs 1 = _ at d1
      have d2 := hd 2 (by decide) rfl
      change vs 2 = _ at d2
      have d3 := hd 3 (by decide) rfl
      change vs 3 = _ at d3
      have d4 := hd 4 (by decide) rfl
      change vs 4 = _ at d4
      have d5 := hd 5 (by decide) rfl
      change vs 5 = _ at d5
      have d6 := hd 6 (by decide) rfl
      change vs 6 = _ at d6
      have d7 := hd 7 (by decide) rfl
      change vs 7 = _ at d7
      have d8 := hd 8 (by decide) rfl
      change vs 8 = _ at d8
      have d9 := hd 9 (by decide) rfl
      change vs 9 = _ at d9
      have d10 := hd 10 (by decide) rfl
      change vs 10 = _ at d10
      have d11 := hd 11 (by decide) rfl
      change vs 11 = _ at d11
      have d13 := hd 13 (by decide) rfl
      change vs 13 = _ at d13
      have d14 := hd 14 (by decide) rfl
      change vs 14 = _ at d14
      simp only [d0, d1, d2, d3, d4, d5, d6, d7, d8, d9, d10, d11, d13, d14, List.drop_succ_cons, List.drop_nil]
      clear hd d0 d1 d2 d3 d4 d5 d6 d7 d8 d9 d10 d11 d13 d14
      have Q := T4.out.kept (hw.mono (by simp [World.setCell]))
      rw [show (⟨s.y + n, s.x + e, s.z, s.m⟩ : St) = mvSt e n true s from rfl, upd_set HS.out] at Q
      have hg4 : wp.grownBy ((wp.setCell ⟨b1, k * 4, none⟩ (iv (s.y + n))).setCell ⟨b1, k * 4 + 1, none⟩ (iv (s.x + e))) (some b1) := (grownBy_set _ _ _ _).trans (grownBy_set _ _ _ _)
      have hg5 := hg4.trans ((grown_of_below (hw.mono (by simp [World.setCell]))).but _)
      have XB := Lib.hid (XB.out.grown hg5 (fun h => by have h2 : y2.heap.size = b1 := Option.some.inj h; omega))
      have BX := Lib.hid (BX.out.grown hg5 (fun h => by have h2 : w.heap.size = b1 := Option.some.inj h; omega))
      have HB := Lib.hid (HB.out.grown hg5 HB.out.size (fun b h => by have h2 : b1 = b := Option.some.inj h; omega))
      have HC := Lib.hid Q
      clear Q hg4 hg5 hw T3 T4
      go_wp2_with fail
      exact ⟨⟨k + 1, by omega, by go_num, HB.out, BX.out, XB.out, HC.out⟩, by simp [intOf]; omega⟩
    · obtain rfl : k = L.st.length := by omega
      rw [upd_all] at HC
      have BB := XB.out
      have cB := fun i => BB.cell i
      go_upto_region 14 with fail
      clear cB BB
      go_loopw [18] (fun i wr => ∃ k : Nat, k ≤ L.rg.length ∧ i = .int .i64 k ∧ Hid (Below w.heap.size w wr) ∧ Hid (Box wr w.heap.size 27 #[.slice A1 L.st.length cap1, .slice A2 L.rg.length cap2, .slice A3 c.length cap3, .slice A4 L.sn.length cap4]) ∧ Hid (Box wr y2.heap.size 27 #[.slice (some ⟨b1, 0, none⟩) L.st.length p1, .slice F2 L.rg.length p2, .slice (some ⟨b3, 0, none⟩) L.cs.length p3, .slice F4 L.sn.length p4]) ∧ Hid (Cop 74 79 80 60 82 y1.heap.size ⟨L.st.map (mvSt e n true), upd (mvWl e n true) k L.rg, L.cs, L.sn⟩ wr (.slice (some ⟨b1, 0, none⟩) L.st.length p1) (.slice F2 L.rg.length p2) (.slice (some ⟨b3, 0, none⟩) L.cs.length p3) (.slice F4 L.sn.length p4) cx)) (fun i _ => L.rg.length - (intOf i).toNat)
      case atStart => exact ⟨0, by omega, rfl, HB.out, BX.out, XB.out, by rw [upd_zero]; exact HC.out⟩
      case round =>
        clear HB BX XB HC
        obtain ⟨k, hk, rfl, HB, BX, XB, HC⟩ := hrel
        have k0 : (0 : Int) ≤ (k : Int) := by omega
        by_cases hlt : k < L.rg.length
        · have k1 : (k : Int) < (L.rg.length : Int) := by omega
          obtain ⟨s, hs⟩ : ∃ s, L.rg[k]? = some s := ⟨_, List.getElem?_eq_getElem hlt⟩
          have HS := Lib.hid hs
          obtain ⟨v1, v2, v3, v4⟩ := wl_bd (rg_wl (List.all_eq_true.1 (rgs_of He.out) s (List.mem_of_getElem? hs)))
          have V1 := Lib.hid v1
          have V2 := Lib.hid v2
          have V3 := Lib.hid v3
          have V4 := Lib.hid v4
          clear hs v1 v2 v3 v4
          obtain ⟨b2, f2, hF2, -, -⟩ := (RowsAt.of_ownM (cells := Wl.cells) (fun _ => rfl) HC.out.o2 rfl (by rw [upd_len]; omega)).at rfl (upd_at HS.out)
          subst hF2
          obtain ⟨h0, -, -⟩ := own_put (i := 0) (u := iv 0) HC.out.o2
          subst h0
          have hb2 := HC.out.o2.lt b2 rfl
          have n_b2 : y2.heap.size ≠ b2 := fun h => box_not_own XB.out (by decide) HC.out.o2 (by rw [h]; rfl)
          have BB := XB.out
          have cB := fun i => BB.cell i
          go_upto_region 16 with fail
          clear cB
          apply wp_region_by 13 [(Fact.eq _), (Fact.eq _), (Fact.eq _), (Fact.eq _), (Fact.eq _), (Fact.eq _), (Fact.eq _), (Fact.eq _), (Fact.eq _), (Fact.eq _), (Fact.eq _), (Fact.eq _), (Fact.eq _)]
          case hm => kernel_rfl
          case hB => kernel_rfl
          case hA => (intro vs; simp only [List.take_succ_cons, List.take_zero, putAll, if_true, Act.put, List.setIfInBounds_toArray, List.set_cons_zero, List.set_cons_succ]; exact rfl)
          case hstep =>
            intro vs
            refine And.intro (fun w hw hd => ?_) ?_
            · refine ite_yes rfl ?_
              simp only [Gives]
              go_simp
              exact ⟨Below.refl _ _, rfl, fun h => by cases h⟩
            refine And.intro (fun w hw hd => ?_) ?_
            · have d0 := hd 0 (by decide) rfl
              change vs 0 = _ at d0
              refine ite_yes rfl ?_
              have c_BB := fun i => (BB.kept hw).cell i
              simp only [Gives]
              go_simp
              exact ⟨Below.refl _ _, rfl, fun h => by cases h⟩
            refine And.intro (fun w hw hd => ?_) ?_
            · refine ite_yes rfl ?_
              simp only [Gives]
              go_simp
              exact ⟨Below.refl _ _, rfl, fun h => by cases h⟩
            refine And.intro (fun w hw hd => ?_) ?_
            · refine ite_yes rfl ?_
              simp only [Gives]
              go_simp
              exact ⟨Below.refl _ _, rfl, fun h => by cases h⟩
            refine And.intro (fun w hw hd => ?_) ?_
            · have d3 := hd 3 (by decide) rfl
              change vs 3 = _ at d3
              refine ite_yes rfl ?_
              have c_BB := fun i => (BB.kept hw).cell i
              simp only [Gives]
              go_simp
              exact ⟨Below.refl _ _, rfl, fun h => by cases h⟩
            refine And.intro (fun w hw hd => ?_) ?_
            · refine ite_yes rfl ?_
              simp only [Gives]
              go_simp
              exact ⟨Below.refl _ _, rfl, fun h => by cases h⟩
            refine And.intro (fun w hw hd => ?_) ?_
            · have d4 := hd 4 (by decide) rfl
              change vs 4 = _ at d4
              have d5 := hd 5 (by decide) rfl
              change vs 5 = _ at d5
              refine ite_yes rfl ?_
              simp only [Gives]
              go_simp
              exact ⟨Below.refl _ _, rfl, fun h => by cases h⟩
            refine And.intro (fun w hw hd => ?_) ?_
            · have d6 := hd 6 (by decide) rfl
              change vs 6 = _ at d6
              refine ite_yes rfl ?_
              have c_BB := fun i => (BB.kept hw).cell i
              have C := HC.out.kept hw
              have q0 : w.cell? ⟨b2, k * 6, none⟩ = some (iv s.x1) := C.rgCell (j := 0) (upd_at HS.out) (by rw [upd_len]; omega) rfl
              have q1 := C.rgCell (j := 1) (upd_at HS.out) (by rw [upd_len]; omega) rfl
              have q2 := C.rgCell (j := 2) (upd_at HS.out) (by rw [upd_len]; omega) rfl
              have q3 := C.rgCell (j := 3) (upd_at HS.out) (by rw [upd_len]; omega) rfl
              have q4 := C.rgCell (j := 4) (upd_at HS.out) (by rw [upd_len]; omega) rfl
              have q5 := C.rgCell (j := 5) (upd_at HS.out) (by rw [upd_len]; omega) rfl
              simp only [Gives]
              go_simp
              exact ⟨Below.refl _ _, rfl, fun h => by cases h⟩
            refine And.intro (fun w hw hd => ?_) ?_
            · refine ite_yes rfl ?_
              simp only [Gives]
              go_simp
              exact ⟨Below.refl _ _, rfl, fun h => by cases h⟩
            refine And.intro (fun w hw hd => ?_) ?_
            · refine ite_yes rfl ?_
              simp only [Gives]
              go_simp
              exact ⟨Below.refl _ _, rfl, fun h => by cases h⟩
            refine And.intro (fun w hw hd => ?_) ?_
            · refine ite_yes rfl ?_
              simp only [Gives]
              go_simp
              exact ⟨Below.refl _ _, rfl, fun h => by cases h⟩
            refine And.intro (fun w hw hd => ?_) ?_
            · have d7 := hd 7 (by decide) rfl
              change vs 7 = _ at d7
              have d8 := hd 8 (by decide) rfl
              change vs 8 = _ at d8
              have d9 := hd 9 (by decide) rfl
              change vs 9 = _ at d9
              have d10 := hd 10 (by decide) rfl
              change vs 10 = _ at d10
              refine ite_yes rfl ?_
              simp only [Gives]
              go_simp
              refine (moved_any s e n true _ V1.out V2.out V3.out V4.out ⟨e1, e2⟩ ⟨n1, n2⟩).mono ?_
              rintro e w1 ⟨rfl, hb⟩
              exact ⟨_, rfl, hb, rfl, fun h => by cases h⟩
            refine And.intro (fun w hw hd => ?_) ?_
            · have d1 := hd 1 (by decide) rfl
              change vs 1 = _ at d1
              have d2 := hd 2 (by decide) rfl
              change vs 2 = _ at d2
              refine ite_yes rfl ?_
              simp only [Gives]
              go_simp
              exact ⟨Below.refl _ _, rfl, fun h => by cases h⟩
            exact trivial
          intro vs wt hw hd hne hlo
          have d0 := hd 0 (by decide)
          change vs 0 = _ at d0
          have d1 := hd 1 (by decide)
          change vs 1 = _ at d1
          have d2 := hd 2 (by decide)
          change vs 2 = _ at d2
          have d3 := hd 3 (by decide)
          change vs 3 = _ at d3
          have d4 := hd 4 (by decide)
          change vs 4 = _ at d4
          have d5 := hd 5 (by decide)
          change vs 5 = _ at d5
          have d6 := hd 6 (by decide)
          change vs 6 = _ at d6
          have d7 := hd 7 (by decide)
          change vs 7 = _ at d7
          have d8 := hd 8 (by decide)
          change vs 8 = _ at d8
          have d9 := hd 9 (by decide)
          change vs 9 = _ at d9
          have d10 := hd 10 (by decide)
          change vs 10 = _ at d10
          have d11 := hd 11 (by decide)
          change vs 11 = _ at d11
          have d12 := hd 12 (by decide)
          change vs 12 = _ at d12
          simp only [d0, d1, d2, d3, d4, d5, d6, d7, d8, d9, d10, d11, d12, List.drop_succ_cons, List.drop_zero]
          have BB := BB.kept hw
          have c_BB := fun i => BB.cell i
          have f_BB := fun i => BB.free i
          clear hd hne hlo d0 d1 d2 d3 d4 d5 d6 d7 d8 d9 d10 d11 d12
          have hb := hw
          clear BB c_BB f_BB hw
          have HB := Lib.hid (up_later HB.out hb)
          have BX := Lib.hid (BX.out.kept hb)
          have XB := Lib.hid (XB.out.kept hb)
          have HC := Lib.hid (HC.out.kept hb)
          clear hb
          have C := HC.out
          have q0 : wt.cell? ⟨b2, k * 6, none⟩ = some (iv s.x1) := C.rgCell (j := 0) (upd_at HS.out) (by rw [upd_len]; omega) rfl
          have q1 := C.rgCell (j := 1) (upd_at HS.out) (by rw [upd_len]; omega) rfl
          have q2 := C.rgCell (j := 2) (upd_at HS.out) (by rw [upd_len]; omega) rfl
          have q3 := C.rgCell (j := 3) (upd_at HS.out) (by rw [upd_len]; omega) rfl
          have q4 := C.rgCell (j := 4) (upd_at HS.out) (by rw [upd_len]; omega) rfl
          have q5 := C.rgCell (j := 5) (upd_at HS.out) (by rw [upd_len]; omega) rfl
          have f0 := fun i : Nat => own_free (p := i) C.o2
          have hL : setRg ⟨L.st.map (mvSt e n true), upd (mvWl e n true) k L.rg, L.cs, L.sn⟩ k (mvWl e n true s) = ⟨L.st.map (mvSt e n true), upd (mvWl e n true) (k + 1) L.rg, L.cs, L.sn⟩ := by
            unfold setRg
            simp only [upd_set HS.out]
          have Q := C.putRg6 (x := mvWl e n true s) (upd_at HS.out) (by decide) (by decide) (by decide) (by decide)
          rw [hL] at Q
          have HQ := Lib.hid Q
          have hg6 : wt.grownBy ((((((wt.setCell ⟨b2, k * 6, none⟩ (iv (mvWl e n true s).x1)).setCell ⟨b2, k * 6 + 1, none⟩ (iv (mvWl e n true s).y1)).setCell ⟨b2, k * 6 + 2, none⟩ (iv (mvWl e n true s).x2)).setCell ⟨b2, k * 6 + 3, none⟩ (iv (mvWl e n true s).y2)).setCell ⟨b2, k * 6 + 4, none⟩ (iv (mvWl e n true s).b)).setCell ⟨b2, k * 6 + 5, none⟩ (iv (mvWl e n true s).t)) (some b2) := (((((grownBy_set _ _ _ _).trans (grownBy_set _ _ _ _)).trans (grownBy_set _ _ _ _)).trans (grownBy_set _ _ _ _)).trans (grownBy_set _ _ _ _)).trans (grownBy_set _ _ _ _)
          have HG := Lib.hid hg6
          clear C hL Q hg6
          go_wp2_with fail
          clear q0 q1 q2 q3 q4 q5 f0
          have XB := Lib.hid (XB.out.grown HG.out (fun h => by have h2 : y2.heap.size = b2 := Option.some.inj h; omega))
          have BX := Lib.hid (BX.out.grown HG.out (fun h => by have h2 : w.heap.size = b2 := Option.some.inj h; omega))
          have HB := Lib.hid (HB.out.grown HG.out HB.out.size (fun b h => by have h2 : b2 = b := Option.some.inj h; omega))
          exact ⟨⟨k + 1, by omega, by go_num, HB.out, BX.out, XB.out, HQ.out⟩, by simp [intOf]; omega⟩
        · obtain rfl : k = L.rg.length := by omega
          rw [upd_all] at HC
          have BB := XB.out
          have cB := fun i => BB.cell i
          go_upto_region 18 with fail
          clear cB BB
          go_loopw [19] (fun i wr => ∃ k : Nat, k ≤ L.cs.length ∧ i = .int .i64 k ∧ Hid (Below w.heap.size w wr) ∧ Hid (Box wr w.heap.size 27 #[.slice A1 L.st.length cap1, .slice A2 L.rg.length cap2, .slice A3 c.length cap3, .slice A4 L.sn.length cap4]) ∧ Hid (Box wr y2.heap.size 27 #[.slice (some ⟨b1, 0, none⟩) L.st.length p1, .slice F2 L.rg.length p2, .slice (some ⟨b3, 0, none⟩) L.cs.length p3, .slice F4 L.sn.length p4]) ∧ Hid (Cop 74 79 80 60 82 y1.heap.size ⟨L.st.map (mvSt e n true), L.rg.map (mvWl e n true), upd (fun l : List Cl => l.map (mvCl e n true)) k L.cs, L.sn⟩ wr (.slice (some ⟨b1, 0, none⟩) L.st.length p1) (.slice F2 L.rg.length p2) (.slice (some ⟨b3, 0, none⟩) L.cs.length p3) (.slice F4 L.sn.length p4) (upd (fun x : Value × List Cl => (x.1, x.2.map (mvCl e n true))) k cx))) (fun i _ => L.cs.length - (intOf i).toNat)
          case atStart => exact ⟨0, by omega, rfl, HB.out, BX.out, XB.out, by rw [upd_zero, upd_zero]; exact HC.out⟩
          case round =>
            clear HB BX XB HC
            obtain ⟨k, hk, rfl, HB, BX, XB, HC⟩ := hrel
            have k0 : (0 : Int) ≤ (k : Int) := by omega
            by_cases hlt : k < L.cs.length
            · have k1 : (k : Int) < (L.cs.length : Int) := by omega
              obtain ⟨zs, hzs⟩ : ∃ s, L.cs[k]? = some s := ⟨_, List.getElem?_eq_getElem hlt⟩
              have HZ := Lib.hid hzs
              have hzl := case_len He.out zs (List.mem_of_getElem? hzs)
              obtain ⟨Fz, mz, pz, hck, hzo⟩ := HCX.out k zs hzs
              obtain ⟨_, _, _, h6, _, _⟩ := (RowsAt.of_ownM (cells := Cl.cells) (fun _ => rfl) hzo rfl (by omega)).form
              cases h6
              have HCK := Lib.hid hck
              have HKC := Lib.hid (show k < (upd (fun x : Value × List Cl => (x.1, x.2.map (mvCl e n true))) k cx).length by rw [upd_len]; exact (List.getElem?_eq_some_iff.1 hck).1)
              clear hzs hck hzo
              have BB := XB.out
              have cB := fun i => BB.cell i
              go_upto_region 21 with fail
              clear cB BB
              obtain ⟨wo, rfl⟩ : ∃ wo : World, wo = wr := ⟨_, rfl⟩
              go_loopw [20] (fun i wr => ∃ m : Nat, m ≤ zs.length ∧ i = .int .i64 m ∧ Hid (Below w.heap.size w wr) ∧ Hid (Box wr w.heap.size 27 #[.slice A1 L.st.length cap1, .slice A2 L.rg.length cap2, .slice A3 c.length cap3, .slice A4 L.sn.length cap4]) ∧ Hid (Box wr y2.heap.size 27 #[.slice (some ⟨b1, 0, none⟩) L.st.length p1, .slice F2 L.rg.length p2, .slice (some ⟨b3, 0, none⟩) L.cs.length p3, .slice F4 L.sn.length p4]) ∧ Hid (Cop 74 79 80 60 82 y1.heap.size ⟨L.st.map (mvSt e n true), L.rg.map (mvWl e n true), (upd (fun l : List Cl => l.map (mvCl e n true)) k L.cs).set k (upd (mvCl e n true) m zs), L.sn⟩ wr (.slice (some ⟨b1, 0, none⟩) L.st.length p1) (.slice F2 L.rg.length p2) (.slice (some ⟨b3, 0, none⟩) L.cs.length p3) (.slice F4 L.sn.length p4) ((upd (fun x : Value × List Cl => (x.1, x.2.map (mvCl e n true))) k cx).set k (.slice Fz zs.length pz, upd (mvCl e n true) m zs)))) (fun i _ => zs.length - (intOf i).toNat)
              case atStart => exact ⟨0, by omega, rfl, HB.out, BX.out, XB.out, by rw [upd_zero, set_self (upd_at HZ.out), set_self (upd_at HCK.out)]; exact HC.out⟩
              case round =>
                clear HB BX XB HC
                obtain ⟨m, hm, rfl, HB, BX, XB, HC⟩ := hrel
                have m0 : (0 : Int) ≤ (m : Int) := by omega
                have hq3 : wr.cell? ⟨b3, k, none⟩ = some (.slice Fz zs.length pz) := own_cell HC.out.o3 (by rw [List.getElem?_map, List.getElem?_set_self HKC.out]; rfl)
                have Hq3 := Lib.hid hq3
                clear hq3
                by_cases hlm : m < zs.length
                · have m1 : (m : Int) < (zs.length : Int) := by omega
                  obtain ⟨s, hs⟩ : ∃ s, zs[m]? = some s := ⟨_, List.getElem?_eq_getElem hlm⟩
                  have HS := Lib.hid hs
                  obtain ⟨v1, v2, v3, v4⟩ := wl_bd (cl_wl (List.all_eq_true.1 (List.all_eq_true.1 (cls_of He.out) zs (List.mem_of_getElem? HZ.out)) s (List.mem_of_getElem? hs)))
                  have V1 := Lib.hid v1
                  have V2 := Lib.hid v2
                  have V3 := Lib.hid v3
                  have V4 := Lib.hid v4
                  clear hs v1 v2 v3 v4
                  have ho5 := HC.out.each _ (List.mem_of_getElem? (List.getElem?_set_self (a := (.slice Fz zs.length pz, upd (mvCl e n true) m zs)) HKC.out))
                  simp only at ho5
                  obtain ⟨b5, f5, hF5, -, -⟩ := (RowsAt.of_ownM (cells := Cl.cells) (fun _ => rfl) ho5 rfl (by rw [upd_len]; omega)).at rfl (upd_at HS.out)
                  subst hF5
                  obtain ⟨h0, -, -⟩ := own_put (i := 0) (u := iv 0) ho5
                  subst h0
                  have hb5 := ho5.lt b5 rfl
                  have n_b5 : y2.heap.size ≠ b5 := fun h => box_not_own XB.out (by decide) ho5 (by rw [h]; rfl)
                  clear ho5
                  have CK := Lib.hid (show ((upd (fun x : Value × List Cl => (x.1, x.2.map (mvCl e n true))) k cx).set k (.slice (some ⟨b5, 0, none⟩) zs.length pz, upd (mvCl e n true) m zs))[k]? = some (.slice (some ⟨b5, 0, none⟩) zs.length pz, upd (mvCl e n true) m zs) from List.getElem?_set_self HKC.out)
                  have BB := XB.out
                  have cB := fun i => BB.cell i
                  have hq3 := Hq3.out
                  go_upto_region 23 with fail
                  clear cB hq3
                  apply wp_region_by 21 [(Fact.eq _), (Fact.eq _), (Fact.eq _), (Fact.eq _), (Fact.eq _), (Fact.eq _), (Fact.eq _), (Fact.eq _), (Fact.eq _), (Fact.eq _), (Fact.eq _), (Fact.eq _), (Fact.eq _), (Fact.eq _), (Fact.eq _), (Fact.eq _), (Fact.eq _), (Fact.eq _), (Fact.eq _), (Fact.eq _), (Fact.eq _)]
                  case hm => kernel_rfl
                  case hB => kernel_rfl
                  case hA => (intro vs; simp only [List.take_succ_cons, List.take_zero, putAll, if_true, Act.put, List.setIfInBounds_toArray, List.set_cons_zero, List.set_cons_succ]; exact rfl)
                  case hstep =>
                    intro vs
                    refine And.intro (fun w hw hd => ?_) ?_
                    · refine ite_yes rfl ?_
                      simp only [Gives]
                      go_simp
                      exact ⟨Below.refl _ _, rfl, fun h => by cases h⟩
                    refine And.intro (fun w hw hd => ?_) ?_
                    · have d0 := hd 0 (by decide) rfl
                      change vs 0 = _ at d0
                      refine ite_yes rfl ?_
                      have c_BB := fun i => (BB.kept hw).cell i
                      simp only [Gives]
                      go_simp
                      exact ⟨Below.refl _ _, rfl, fun h => by cases h⟩
                    refine And.intro (fun w hw hd => ?_) ?_
                    · refine ite_yes rfl ?_
                      simp only [Gives]
                      go_simp
                      exact ⟨Below.refl _ _, rfl, fun h => by cases h⟩
                    refine And.intro (fun w hw hd => ?_) ?_
                    · have d1 := hd 1 (by decide) rfl
                      change vs 1 = _ at d1
                      have d2 := hd 2 (by decide) rfl
                      change vs 2 = _ at d2
                      refine ite_yes rfl ?_
                      simp only [Gives]
                      go_simp
                      exact ⟨Below.refl _ _, rfl, fun h => by cases h⟩
                    refine And.intro (fun w hw hd => ?_) ?_
                    · have d3 := hd 3 (by decide) rfl
                      change vs 3 = _ at d3
                      refine ite_yes rfl ?_
                      have c_BB := fun i => (BB.kept hw).cell i
                      have q9 : w.cell? ⟨b3, k, none⟩ = some (.slice (some ⟨b5, 0, none⟩) zs.length pz) := own_cell (HC.out.kept hw).o3 (by rw [List.getElem?_map, List.getElem?_set_self HKC.out]; rfl)
                      simp only [Gives]
                      go_simp
                      exact ⟨Below.refl _ _, rfl, fun h => by cases h⟩
                    refine And.intro (fun w hw hd => ?_) ?_
                    · refine ite_yes rfl ?_
                      simp only [Gives]
                      go_simp
                      exact ⟨Below.refl _ _, rfl, fun h => by cases h⟩
                    refine And.intro (fun w hw hd => ?_) ?_
                    · refine ite_yes rfl ?_
                      simp only [Gives]
                      go_simp
                      exact ⟨Below.refl _ _, rfl, fun h => by cases h⟩
                    refine And.intro (fun w hw hd => ?_) ?_
                    · have d6 := hd 6 (by decide) rfl
                      change vs 6 = _ at d6
                      refine ite_yes rfl ?_
                      have c_BB := fun i => (BB.kept hw).cell i
                      simp only [Gives]
                      go_simp
                      exact ⟨Below.refl _ _, rfl, fun h => by cases h⟩
                    refine And.intro (fun w hw hd => ?_) ?_
                    · refine ite_yes rfl ?_
                      simp only [Gives]
                      go_simp
                      exact ⟨Below.refl _ _, rfl, fun h => by cases h⟩
                    refine And.intro (fun w hw hd => ?_) ?_
                    · have d7 := hd 7 (by decide) rfl
                      change vs 7 = _ at d7
                      have d8 := hd 8 (by decide) rfl
                      change vs 8 = _ at d8
                      refine ite_yes rfl ?_
                      simp only [Gives]
                      go_simp
                      exact ⟨Below.refl _ _, rfl, fun h => by cases h⟩
                    refine And.intro (fun w hw hd => ?_) ?_
                    · have d9 := hd 9 (by decide) rfl
                      change vs 9 = _ at d9
                      refine ite_yes rfl ?_
                      have c_BB := fun i => (BB.kept hw).cell i
                      have q9 : w.cell? ⟨b3, k, none⟩ = some (.slice (some ⟨b5, 0, none⟩) zs.length pz) := own_cell (HC.out.kept hw).o3 (by rw [List.getElem?_map, List.getElem?_set_self HKC.out]; rfl)
                      simp only [Gives]
                      go_simp
                      exact ⟨Below.refl _ _, rfl, fun h => by cases h⟩
                    refine And.intro (fun w hw hd => ?_) ?_
                    · refine ite_yes rfl ?_
                      simp only [Gives]
                      go_simp
                      exact ⟨Below.refl _ _, rfl, fun h => by cases h⟩
                    refine And.intro (fun w hw hd => ?_) ?_
                    · have d10 := hd 10 (by decide) rfl
                      change vs 10 = _ at d10
                      have d11 := hd 11 (by decide) rfl
                      change vs 11 = _ at d11
                      refine ite_yes rfl ?_
                      simp only [Gives]
                      go_simp
                      exact ⟨Below.refl _ _, rfl, fun h => by cases h⟩
                    refine And.intro (fun w hw hd => ?_) ?_
                    · have d12 := hd 12 (by decide) rfl
                      change vs 12 = _ at d12
                      refine ite_yes rfl ?_
                      simp only [Gives]
                      go_simp
                      exact ⟨Below.refl _ _, rfl, fun h => by cases h⟩
                    refine And.intro (fun w hw hd => ?_) ?_
                    · have d13 := hd 13 (by decide) rfl
                      change vs 13 = _ at d13
                      refine ite_yes rfl ?_
                      have c_BB := fun i => (BB.kept hw).cell i
                      have C := HC.out.kept hw
                      have q0 : w.cell? ⟨b5, m * 8, none⟩ = some (iv s.w.x1) := clCell (j := 0) C CK.out (upd_at HS.out) (by rw [upd_len]; omega) rfl
                      have q1 : w.cell? ⟨b5, m * 8 + 1, none⟩ = some (iv s.w.y1) := clCell (j := 1) C CK.out (upd_at HS.out) (by rw [upd_len]; omega) rfl
                      have q2 : w.cell? ⟨b5, m * 8 + 2, none⟩ = some (iv s.w.x2) := clCell (j := 2) C CK.out (upd_at HS.out) (by rw [upd_len]; omega) rfl
                      have q3 : w.cell? ⟨b5, m * 8 + 3, none⟩ = some (iv s.w.y2) := clCell (j := 3) C CK.out (upd_at HS.out) (by rw [upd_len]; omega) rfl
                      have q4 : w.cell? ⟨b5, m * 8 + 4, none⟩ = some (iv s.w.b) := clCell (j := 4) C CK.out (upd_at HS.out) (by rw [upd_len]; omega) rfl
                      have q5 : w.cell? ⟨b5, m * 8 + 5, none⟩ = some (iv s.w.t) := clCell (j := 5) C CK.out (upd_at HS.out) (by rw [upd_len]; omega) rfl
                      simp only [Gives]
                      go_simp
                      exact ⟨Below.refl _ _, rfl, fun h => by cases h⟩
                    refine And.intro (fun w hw hd => ?_) ?_
                    · refine ite_yes rfl ?_
                      simp only [Gives]
                      go_simp
                      exact ⟨Below.refl _ _, rfl, fun h => by cases h⟩
                    refine And.intro (fun w hw hd => ?_) ?_
                    · refine ite_yes rfl ?_
                      simp only [Gives]
                      go_simp
                      exact ⟨Below.refl _ _, rfl, fun h => by cases h⟩
                    refine And.intro (fun w hw hd => ?_) ?_
                    · refine ite_yes rfl ?_
                      simp only [Gives]
                      go_simp
                      exact ⟨Below.refl _ _, rfl, fun h => by cases h⟩
                    refine And.intro (fun w hw hd => ?_) ?_
                    · have d14 := hd 14 (by decide) rfl
                      change vs 14 = _ at d14
                      have d15 := hd 15 (by decide) rfl
                      change vs 15 = _ at d15
                      have d16 := hd 16 (by decide) rfl
                      change vs 16 = _ at d16
                      have d17 := hd 17 (by decide) rfl
                      change vs 17 = _ at d17
                      refine ite_yes rfl ?_
                      simp only [Gives]
                      go_simp
                      refine (moved_any s.w e n true _ V1.out V2.out V3.out V4.out ⟨e1, e2⟩ ⟨n1, n2⟩).mono ?_
                      rintro e w1 ⟨rfl, hb⟩
                      exact ⟨_, rfl, hb, rfl, fun h => by cases h⟩
                    refine And.intro (fun w hw hd => ?_) ?_
                    · have d4 := hd 4 (by decide) rfl
                      change vs 4 = _ at d4
                      have d5 := hd 5 (by decide) rfl
                      change vs 5 = _ at d5
                      refine ite_yes rfl ?_
                      simp only [Gives]
                      go_simp
                      exact ⟨Below.refl _ _, rfl, fun h => by cases h⟩
                    refine And.intro (fun w hw hd => ?_) ?_
                    · have d19 := hd 19 (by decide) rfl
                      change vs 19 = _ at d19
                      refine ite_yes rfl ?_
                      simp only [Gives]
                      go_simp
                      exact ⟨Below.refl _ _, rfl, fun h => by cases h⟩
                    exact trivial
                  intro vs wt hw hd hne hlo
                  have d0 := hd 0 (by decide)
                  change vs 0 = _ at d0
                  have d1 := hd 1 (by decide)
                  change vs 1 = _ at d1
                  have d2 := hd 2 (by decide)
                  change vs 2 = _ at d2
                  have d3 := hd 3 (by decide)
                  change vs 3 = _ at d3
                  have d4 := hd 4 (by decide)
                  change vs 4 = _ at d4
                  have d5 := hd 5 (by decide)
                  change vs 5 = _ at d5
                  have d6 := hd 6 (by decide)
                  change vs 6 = _ at d6
                  have d7 := hd 7 (by decide)
                  change vs 7 = _ at d7
                  have d8 := hd 8 (by decide)
                  change vs 8 = _ at d8
                  have d9 := hd 9 (by decide)
                  change vs 9 = _ at d9
                  have d10 := hd 10 (by decide)
                  change vs 10 = _ at d10
                  have d11 := hd 11 (by decide)
                  change vs 11 = _ at d11
                  have d12 := hd 12 (by decide)
                  change vs 12 = _ at d12
                  have d13 := hd 13 (by decide)
                  change vs 13 = _ at d13
                  have d14 := hd 14 (by decide)
                  change vs 14 = _ at d14
                  have d15 := hd 15 (by decide)
                  change vs 15 = _ at d15
                  have d16 := hd 16 (by decide)
                  change vs 16 = _ at d16
                  have d17 := hd 17 (by decide)
                  change vs 17 = _ at d17
                  have d18 := hd 18 (by decide)
                  change vs 18 = _ at d18
                  have d19 := hd 19 (by decide)
                  change vs 19 = _ at d19
                  have d20 := hd 20 (by decide)
                  change vs 20 = _ at d20
                  simp only [d0, d1, d2, d3, d4, d5, d6, d7, d8, d9, d10, d11, d12, d13, d14, d15, d16, d17, d18, d19, d20, List.drop_succ_cons, List.drop_zero]
                  have BB := BB.kept hw
                  have c_BB := fun i => BB.cell i
                  have f_BB := fun i => BB.free i
                  clear hd hne hlo d0 d1 d2 d3 d4 d5 d6 d7 d8 d9 d10 d11 d12 d13 d14 d15 d16 d17 d18 d19 d20
                  have hb := hw
                  clear BB c_BB f_BB hw
                  have HB := Lib.hid (up_later HB.out hb)
                  have BX := Lib.hid (BX.out.kept hb)
                  have XB := Lib.hid (XB.out.kept hb)
                  have HC := Lib.hid (HC.out.kept hb)
                  clear hb
                  have C := HC.out
                  have q0 : wt.cell? ⟨b5, m * 8, none⟩ = some (iv s.w.x1) := clCell (j := 0) C CK.out (upd_at HS.out) (by rw [upd_len]; omega) rfl
                  have q1 : wt.cell? ⟨b5, m * 8 + 1, none⟩ = some (iv s.w.y1) := clCell (j := 1) C CK.out (upd_at HS.out) (by rw [upd_len]; omega) rfl
                  have q2 : wt.cell? ⟨b5, m * 8 + 2, none⟩ = some (iv s.w.x2) := clCell (j := 2) C CK.out (upd_at HS.out) (by rw [upd_len]; omega) rfl
                  have q3 : wt.cell? ⟨b5, m * 8 + 3, none⟩ = some (iv s.w.y2) := clCell (j := 3) C CK.out (upd_at HS.out) (by rw [upd_len]; omega) rfl
                  have q4 : wt.cell? ⟨b5, m * 8 + 4, none⟩ = some (iv s.w.b) := clCell (j := 4) C CK.out (upd_at HS.out) (by rw [upd_len]; omega) rfl
                  have q5 : wt.cell? ⟨b5, m * 8 + 5, none⟩ = some (iv s.w.t) := clCell (j := 5) C CK.out (upd_at HS.out) (by rw [upd_len]; omega) rfl
                  have f0 : ∀ i : Nat, wt.frozen? ⟨b5, i, none⟩ = false := fun i => own_free (p := i) (C.each _ (List.mem_of_getElem? CK.out))
                  have Q := C.putCl6 (x := mvWl e n true s.w) CK.out (upd_at HS.out) (by decide) (by decide) (by decide) (by decide)
                  rw [show (⟨mvWl e n true s.w, s.f, s.t⟩ : Cl) = mvCl e n true s from rfl, upd_set HS.out, List.set_set] at Q
                  unfold setCs at Q
                  simp only [List.set_set] at Q
                  have HQ := Lib.hid Q
                  have hg6 : wt.grownBy ((((((wt.setCell ⟨b5, m * 8, none⟩ (iv (mvWl e n true s.w).x1)).setCell ⟨b5, m * 8 + 1, none⟩ (iv (mvWl e n true s.w).y1)).setCell ⟨b5, m * 8 + 2, none⟩ (iv (mvWl e n true s.w).x2)).setCell ⟨b5, m * 8 + 3, none⟩ (iv (mvWl e n true s.w).y2)).setCell ⟨b5, m * 8 + 4, none⟩ (iv (mvWl e n true s.w).b)).setCell ⟨b5, m * 8 + 5, none⟩ (iv (mvWl e n true s.w).t)) (some b5) := (((((grownBy_set _ _ _ _).trans (grownBy_set _ _ _ _)).trans (grownBy_set _ _ _ _)).trans (grownBy_set _ _ _ _)).trans (grownBy_set _ _ _ _)).trans (grownBy_set _ _ _ _)
                  have HG := Lib.hid hg6
                  clear C Q hg6 Hq3
                  go_wp2_with fail
                  clear q0 q1 q2 q3 q4 q5 f0
                  have XB := Lib.hid (XB.out.grown HG.out (fun h => by have h2 : y2.heap.size = b5 := Option.some.inj h; omega))
                  have BX := Lib.hid (BX.out.grown HG.out (fun h => by have h2 : w.heap.size = b5 := Option.some.inj h; omega))
                  have HB := Lib.hid (HB.out.grown HG.out HB.out.size (fun b h => by have h2 : b5 = b := Option.some.inj h; omega))
                  exact ⟨⟨m + 1, by omega, by go_num, HB.out, BX.out, XB.out, HQ.out⟩, by simp [intOf]; omega⟩
                · obtain rfl : m = zs.length := by omega
                  rw [upd_all] at HC
                  rw [show (.slice Fz zs.length pz, zs.map (mvCl e n true)) = (fun x : Value × List Cl => (x.1, x.2.map (mvCl e n true))) (.slice Fz zs.length pz, zs) from rfl, upd_set HCK.out] at HC
                  rw [show zs.map (mvCl e n true) = (fun l : List Cl => l.map (mvCl e n true)) zs from rfl, upd_set HZ.out] at HC
                  have BB := XB.out
                  have cB := fun i => BB.cell i
                  have hq3 := Hq3.out
                  go_wp2_with fail
                  exact ⟨⟨k + 1, by omega, by go_num, HB.out, BX.out, XB.out, HC.out⟩, by simp [intOf]; omega⟩
            · obtain rfl : k = L.cs.length := by omega
              rw [upd_all, upd_full HCXL.out] at HC
              have BB := XB.out
              have cB := fun i => BB.cell i
              go_upto_region 25 with fail
              clear cB BB
              go_loopw [21] (fun i wr => ∃ k : Nat, k ≤ L.sn.length ∧ i = .int .i64 k ∧ Hid (Below w.heap.size w wr) ∧ Hid (Box wr w.heap.size 27 #[.slice A1 L.st.length cap1, .slice A2 L.rg.length cap2, .slice A3 c.length cap3, .slice A4 L.sn.length cap4]) ∧ Hid (Box wr y2.heap.size 27 #[.slice (some ⟨b1, 0, none⟩) L.st.length p1, .slice F2 L.rg.length p2, .slice (some ⟨b3, 0, none⟩) L.cs.length p3, .slice F4 L.sn.length p4]) ∧ Hid (Cop 74 79 80 60 82 y1.heap.size ⟨L.st.map (mvSt e n true), L.rg.map (mvWl e n true), L.cs.map (fun l : List Cl => l.map (mvCl e n true)), upd (mvSn true) k L.sn⟩ wr (.slice (some ⟨b1, 0, none⟩) L.st.length p1) (.slice F2 L.rg.length p2) (.slice (some ⟨b3, 0, none⟩) L.cs.length p3) (.slice F4 L.sn.length p4) (cx.map (fun x : Value × List Cl => (x.1, x.2.map (mvCl e n true)))))) (fun i _ => L.sn.length - (intOf i).toNat)
              case atStart => exact ⟨0, by omega, rfl, HB.out, BX.out, XB.out, by rw [upd_zero]; exact HC.out⟩
              case round =>
                clear HB BX XB HC
                obtain ⟨k, hk, rfl, HB, BX, XB, HC⟩ := hrel
                have k0 : (0 : Int) ≤ (k : Int) := by omega
                by_cases hlt : k < L.sn.length
                · have k1 : (k : Int) < (L.sn.length : Int) := by omega
                  obtain ⟨s, hs⟩ : ∃ s, L.sn[k]? = some s := ⟨_, List.getElem?_eq_getElem hlt⟩
                  have HS := Lib.hid hs
                  clear hs
                  obtain ⟨b4, f4, hF4, -, -⟩ := (RowsAt.of_ownM (cells := Sn.cells) (fun _ => rfl) HC.out.o4 rfl (by rw [upd_len]; omega)).at rfl (upd_at HS.out)
                  subst hF4
                  obtain ⟨h0, -, -⟩ := own_put (i := 0) (u := iv 0) HC.out.o4
                  subst h0
                  have HB9 := Lib.hid HB.out
                  obtain ⟨b8, o8, hA4, -, -⟩ := HT0.out.sn.at rfl HS.out
                  subst hA4
                  have HB := Lib.hid HB9.out
                  have hb4 := HC.out.o4.lt b4 rfl
                  have n_BB : y2.heap.size ≠ b4 := fun h => box_not_own XB.out (by decide) HC.out.o4 (by rw [h]; rfl)
                  have n_BC : w.heap.size ≠ b4 := by omega
                  have BB := XB.out
                  have BC := BX.out
                  have cB := fun i => BB.cell i
                  go_upto_region 27 with fail
                  clear cB
                  have t1 := HC.out.putSn (s' := ⟨s.n, s.n, s.u⟩) (j := 0) (u := iv s.n) (upd_at HS.out) (by decide) rfl (by decide) (by decide) (by decide) (by decide)
                  have g1 : ((upd (mvSn true) k L.sn).set k ⟨s.n, s.n, s.u⟩)[k]? = some ⟨s.n, s.n, s.u⟩ := by rw [List.getElem?_set_self]; rw [upd_len]; exact hlt
                  have t2 := t1.putSn (s' := ⟨s.n, s.e, s.u⟩) (j := 1) (u := iv s.e) g1 (by decide) rfl (by decide) (by decide) (by decide) (by decide)
                  have G1 := Lib.hid g1
                  have T1 := Lib.hid t1
                  have T2 := Lib.hid t2
                  have hS4 := Lib.hid (show ∀ x ∈ [(20, (⟨b4, k * 3, none⟩ : Addr), iv s.n), (23, ⟨b4, k * 3 + 1, none⟩, iv s.e)], w.heap.size ≤ x.2.1.block by
                    intro x hx
                    simp only [List.mem_cons, List.not_mem_nil, or_false] at hx
                    rcases hx with rfl | rfl
                    · show w.heap.size ≤ b4
                      omega
                    · show w.heap.size ≤ b4
                      omega)
                  clear t1 t2 g1
                  apply wp_region_puts 24 [(20, ⟨b4, k * 3, none⟩, iv s.n), (23, ⟨b4, k * 3 + 1, none⟩, iv s.e)] [_, _, _, _, _, _, _, _, _, _, _, _, _, _, _, _, _, _, _, _, undef, _, _, undef]
                  case hm => kernel_rfl
                  case hB => kernel_rfl
                  case hS => kernel_rfl
                  case hA => (intro vs; simp only [List.take_succ_cons, List.take_zero, putAll, if_true, Act.put, List.setIfInBounds_toArray, List.set_cons_zero, List.set_cons_succ]; exact rfl)
                  case hstep =>
                    intro vs
                    refine And.intro (fun _ w hz hE hd => ?_) ?_
                    · refine And.intro rfl ?_
                      simp only [Gives]
                      go_simp
                      exact ⟨Below.refl _ _, rfl⟩
                    refine And.intro (fun _ w hz hE hd => ?_) ?_
                    · have d0 := hd 0 (by decide) rfl rfl
                      change vs 0 = _ at d0
                      refine And.intro rfl ?_
                      obtain ⟨j, hj, hno, hw⟩ := hE
                      have c_BB := fun i => ((box_puts BB (show ∀ x ∈ ([(20, ⟨b4, k * 3, none⟩, iv s.n), (23, ⟨b4, k * 3 + 1, none⟩, iv s.e)] : List (Nat × Addr × Value)), _ ≠ x.2.1.block by intro x hx; simp only [List.mem_cons, List.not_mem_nil, or_false] at hx; rcases hx with rfl | rfl <;> exact n_BB)).kept (hw.mono (Nat.le_of_eq putsTo_size))).cell i
                      have c_BC := fun i => ((box_puts BC (show ∀ x ∈ ([(20, ⟨b4, k * 3, none⟩, iv s.n), (23, ⟨b4, k * 3 + 1, none⟩, iv s.e)] : List (Nat × Addr × Value)), _ ≠ x.2.1.block by intro x hx; simp only [List.mem_cons, List.not_mem_nil, or_false] at hx; rcases hx with rfl | rfl <;> exact n_BC)).kept (hw.mono (Nat.le_of_eq putsTo_size))).cell i
                      simp only [Gives]
                      go_simp
                      exact ⟨Below.refl _ _, rfl⟩
                    refine And.intro (fun _ w hz hE hd => ?_) ?_
                    · refine And.intro rfl ?_
                      simp only [Gives]
                      go_simp
                      exact ⟨Below.refl _ _, rfl⟩
                    refine And.intro (fun _ w hz hE hd => ?_) ?_
                    · refine And.intro rfl ?_
                      simp only [Gives]
                      go_simp
                      exact ⟨Below.refl _ _, rfl⟩
                    refine And.intro (fun _ w hz hE hd => ?_) ?_
                    · have d3 := hd 3 (by decide) rfl rfl
                      change vs 3 = _ at d3
                      refine And.intro rfl ?_
                      obtain ⟨j, hj, hno, hw⟩ := hE
                      have c_BB := fun i => ((box_puts BB (show ∀ x ∈ ([(20, ⟨b4, k * 3, none⟩, iv s.n), (23, ⟨b4, k * 3 + 1, none⟩, iv s.e)] : List (Nat × Addr × Value)), _ ≠ x.2.1.block by intro x hx; simp only [List.mem_cons, List.not_mem_nil, or_false] at hx; rcases hx with rfl | rfl <;> exact n_BB)).kept (hw.mono (Nat.le_of_eq putsTo_size))).cell i
                      have c_BC := fun i => ((box_puts BC (show ∀ x ∈ ([(20, ⟨b4, k * 3, none⟩, iv s.n), (23, ⟨b4, k * 3 + 1, none⟩, iv s.e)] : List (Nat × Addr × Value)), _ ≠ x.2.1.block by intro x hx; simp only [List.mem_cons, List.not_mem_nil, or_false] at hx; rcases hx with rfl | rfl <;> exact n_BC)).kept (hw.mono (Nat.le_of_eq putsTo_size))).cell i
                      simp only [Gives]
                      go_simp
                      exact ⟨Below.refl _ _, rfl⟩
                    refine And.intro (fun _ w hz hE hd => ?_) ?_
                    · refine And.intro rfl ?_
                      simp only [Gives]
                      go_simp
                      exact ⟨Below.refl _ _, rfl⟩
                    refine And.intro (fun _ w hz hE hd => ?_) ?_
                    · refine And.intro rfl ?_
                      simp only [Gives]
                      go_simp
                      exact ⟨Below.refl _ _, rfl⟩
                    refine And.intro (fun _ w hz hE hd => ?_) ?_
                    · have d6 := hd 6 (by decide) rfl rfl
                      change vs 6 = _ at d6
                      refine And.intro rfl ?_
                      obtain ⟨j, hj, hno, hw⟩ := hE
                      have c_BB := fun i => ((box_puts BB (show ∀ x ∈ ([(20, ⟨b4, k * 3, none⟩, iv s.n), (23, ⟨b4, k * 3 + 1, none⟩, iv s.e)] : List (Nat × Addr × Value)), _ ≠ x.2.1.block by intro x hx; simp only [List.mem_cons, List.not_mem_nil, or_false] at hx; rcases hx with rfl | rfl <;> exact n_BB)).kept (hw.mono (Nat.le_of_eq putsTo_size))).cell i
                      have c_BC := fun i => ((box_puts BC (show ∀ x ∈ ([(20, ⟨b4, k * 3, none⟩, iv s.n), (23, ⟨b4, k * 3 + 1, none⟩, iv s.e)] : List (Nat × Addr × Value)), _ ≠ x.2.1.block by intro x hx; simp only [List.mem_cons, List.not_mem_nil, or_false] at hx; rcases hx with rfl | rfl <;> exact n_BC)).kept (hw.mono (Nat.le_of_eq putsTo_size))).cell i
                      simp only [Gives]
                      go_simp
                      exact ⟨Below.refl _ _, rfl⟩
                    refine And.intro (fun _ w hz hE hd => ?_) ?_
                    · refine And.intro rfl ?_
                      simp only [Gives]
                      go_simp
                      exact ⟨Below.refl _ _, rfl⟩
                    refine And.intro (fun _ w hz hE hd => ?_) ?_
                    · have d7 := hd 7 (by decide) rfl rfl
                      change vs 7 = _ at d7
                      have d8 := hd 8 (by decide) rfl rfl
                      change vs 8 = _ at d8
                      refine And.intro rfl ?_
                      simp only [Gives]
                      go_simp
                      exact ⟨Below.refl _ _, rfl⟩
                    refine And.intro (fun _ w hz hE hd => ?_) ?_
                    · have d9 := hd 9 (by decide) rfl rfl
                      change vs 9 = _ at d9
                      refine And.intro rfl ?_
                      simp only [Gives]
                      go_simp
                      exact ⟨Below.refl _ _, rfl⟩
                    refine And.intro (fun _ w hz hE hd => ?_) ?_
                    · have d10 := hd 10 (by decide) rfl rfl
                      change vs 10 = _ at d10
                      refine And.intro rfl ?_
                      obtain ⟨j, hj, hno, hw⟩ := hE
                      have c_BB := fun i => ((box_puts BB (show ∀ x ∈ ([(20, ⟨b4, k * 3, none⟩, iv s.n), (23, ⟨b4, k * 3 + 1, none⟩, iv s.e)] : List (Nat × Addr × Value)), _ ≠ x.2.1.block by intro x hx; simp only [List.mem_cons, List.not_mem_nil, or_false] at hx; rcases hx with rfl | rfl <;> exact n_BB)).kept (hw.mono (Nat.le_of_eq putsTo_size))).cell i
                      have c_BC := fun i => ((box_puts BC (show ∀ x ∈ ([(20, ⟨b4, k * 3, none⟩, iv s.n), (23, ⟨b4, k * 3 + 1, none⟩, iv s.e)] : List (Nat × Addr × Value)), _ ≠ x.2.1.block by intro x hx; simp only [List.mem_cons, List.not_mem_nil, or_false] at hx; rcases hx with rfl | rfl <;> exact n_BC)).kept (hw.mono (Nat.le_of_eq putsTo_size))).cell i
                      have hL := HT0.out.kept (below_puts HB.out (S := [(20, ⟨b4, k * 3, none⟩, iv s.n), (23, ⟨b4, k * 3 + 1, none⟩, iv s.e)]) (j := j) (hS4.out) hw HB.out.size)
                      have q0 := hL.sn.cellAt HS.out (j := 1) rfl
                      simp only [Gives]
                      go_simp
                      exact ⟨Below.refl _ _, rfl⟩
                    refine And.intro (fun _ w hz hE hd => ?_) ?_
                    · refine And.intro rfl ?_
                      simp only [Gives]
                      go_simp
                      exact ⟨Below.refl _ _, rfl⟩
                    refine And.intro (fun _ w hz hE hd => ?_) ?_
                    · have d12 := hd 12 (by decide) rfl rfl
                      change vs 12 = _ at d12
                      refine And.intro rfl ?_
                      obtain ⟨j, hj, hno, hw⟩ := hE
                      have c_BB := fun i => ((box_puts BB (show ∀ x ∈ ([(20, ⟨b4, k * 3, none⟩, iv s.n), (23, ⟨b4, k * 3 + 1, none⟩, iv s.e)] : List (Nat × Addr × Value)), _ ≠ x.2.1.block by intro x hx; simp only [List.mem_cons, List.not_mem_nil, or_false] at hx; rcases hx with rfl | rfl <;> exact n_BB)).kept (hw.mono (Nat.le_of_eq putsTo_size))).cell i
                      have c_BC := fun i => ((box_puts BC (show ∀ x ∈ ([(20, ⟨b4, k * 3, none⟩, iv s.n), (23, ⟨b4, k * 3 + 1, none⟩, iv s.e)] : List (Nat × Addr × Value)), _ ≠ x.2.1.block by intro x hx; simp only [List.mem_cons, List.not_mem_nil, or_false] at hx; rcases hx with rfl | rfl <;> exact n_BC)).kept (hw.mono (Nat.le_of_eq putsTo_size))).cell i
                      simp only [Gives]
                      go_simp
                      exact ⟨Below.refl _ _, rfl⟩
                    refine And.intro (fun _ w hz hE hd => ?_) ?_
                    · refine And.intro rfl ?_
                      simp only [Gives]
                      go_simp
                      exact ⟨Below.refl _ _, rfl⟩
                    refine And.intro (fun _ w hz hE hd => ?_) ?_
                    · have d13 := hd 13 (by decide) rfl rfl
                      change vs 13 = _ at d13
                      have d14 := hd 14 (by decide) rfl rfl
                      change vs 14 = _ at d14
                      refine And.intro rfl ?_
                      simp only [Gives]
                      go_simp
                      exact ⟨Below.refl _ _, rfl⟩
                    refine And.intro (fun _ w hz hE hd => ?_) ?_
                    · have d15 := hd 15 (by decide) rfl rfl
                      change vs 15 = _ at d15
                      refine And.intro rfl ?_
                      simp only [Gives]
                      go_simp
                      exact ⟨Below.refl _ _, rfl⟩
                    refine And.intro (fun _ w hz hE hd => ?_) ?_
                    · have d16 := hd 16 (by decide) rfl rfl
                      change vs 16 = _ at d16
                      refine And.intro rfl ?_
                      obtain ⟨j, hj, hno, hw⟩ := hE
                      have c_BB := fun i => ((box_puts BB (show ∀ x ∈ ([(20, ⟨b4, k * 3, none⟩, iv s.n), (23, ⟨b4, k * 3 + 1, none⟩, iv s.e)] : List (Nat × Addr × Value)), _ ≠ x.2.1.block by intro x hx; simp only [List.mem_cons, List.not_mem_nil, or_false] at hx; rcases hx with rfl | rfl <;> exact n_BB)).kept (hw.mono (Nat.le_of_eq putsTo_size))).cell i
                      have c_BC := fun i => ((box_puts BC (show ∀ x ∈ ([(20, ⟨b4, k * 3, none⟩, iv s.n), (23, ⟨b4, k * 3 + 1, none⟩, iv s.e)] : List (Nat × Addr × Value)), _ ≠ x.2.1.block by intro x hx; simp only [List.mem_cons, List.not_mem_nil, or_false] at hx; rcases hx with rfl | rfl <;> exact n_BC)).kept (hw.mono (Nat.le_of_eq putsTo_size))).cell i
                      have hL := HT0.out.kept (below_puts HB.out (S := [(20, ⟨b4, k * 3, none⟩, iv s.n), (23, ⟨b4, k * 3 + 1, none⟩, iv s.e)]) (j := j) (hS4.out) hw HB.out.size)
                      have q0 : w.cell? ⟨b8, o8 + k * 3, none⟩ = some (iv s.e) := by simpa using hL.sn.cellAt HS.out (j := 0) rfl
                      simp only [Gives]
                      go_simp
                      exact ⟨Below.refl _ _, rfl⟩
                    refine And.intro (fun _ w hz hE hd => ?_) ?_
                    · have d1 := hd 1 (by decide) rfl rfl
                      change vs 1 = _ at d1
                      have d2 := hd 2 (by decide) rfl rfl
                      change vs 2 = _ at d2
                      refine And.intro rfl ?_
                      simp only [Gives]
                      go_simp
                      exact ⟨Below.refl _ _, rfl⟩
                    refine And.intro (fun _ w hz hE hd => ?_) ?_
                    · have d18 := hd 18 (by decide) rfl rfl
                      change vs 18 = _ at d18
                      refine And.intro rfl ?_
                      simp only [Gives]
                      go_simp
                      exact ⟨Below.refl _ _, rfl⟩
                    refine And.intro (fun h => by cases h) ?_
                    refine And.intro (fun _ w hz hE hd => ?_) ?_
                    · have d4 := hd 4 (by decide) rfl rfl
                      change vs 4 = _ at d4
                      have d5 := hd 5 (by decide) rfl rfl
                      change vs 5 = _ at d5
                      refine And.intro rfl ?_
                      simp only [Gives]
                      go_simp
                      exact ⟨Below.refl _ _, rfl⟩
                    refine And.intro (fun _ w hz hE hd => ?_) ?_
                    · have d21 := hd 21 (by decide) rfl rfl
                      change vs 21 = _ at d21
                      refine And.intro rfl ?_
                      simp only [Gives]
                      go_simp
                      exact ⟨Below.refl _ _, rfl⟩
                    refine And.intro (fun h => by cases h) ?_
                    exact trivial
                  case hp =>
                    intro vs m x o hx ho w hw hd
                    rcases m with _ | _ | m
                    · obtain rfl := Option.some.inj hx
                      obtain rfl := Option.some.inj ho
                      have d19 := hd 19 (by decide) rfl rfl
                      change vs 19 = _ at d19
                      have d11 := hd 11 (by decide) rfl rfl
                      change vs 11 = _ at d11
                      simp only [List.take_zero, putsTo] at hw
                      refine And.intro rfl ?_
                      have C := HC.out.kept hw
                      have q0 : w.cell? ⟨b4, k * 3, none⟩ = some (iv s.e) := snCell (j := 0) C (upd_at HS.out) (by rw [upd_len]; omega) rfl
                      have f0 : w.frozen? ⟨b4, k * 3, none⟩ = false := own_free C.o4
                      simp only [Gives]
                      go_simp
                      exact rfl
                    · obtain rfl := Option.some.inj hx
                      obtain rfl := Option.some.inj ho
                      have d22 := hd 22 (by decide) rfl rfl
                      change vs 22 = _ at d22
                      have d17 := hd 17 (by decide) rfl rfl
                      change vs 17 = _ at d17
                      simp only [List.take_succ_cons, List.take_zero, putsTo] at hw
                      refine And.intro rfl ?_
                      have C := T1.out.kept (hw.mono (by simp [World.setCell]))
                      have q0 : w.cell? ⟨b4, k * 3 + 1, none⟩ = some (iv s.n) := snCell (j := 1) C G1.out (by rw [List.length_set, upd_len]; omega) rfl
                      have f0 : w.frozen? ⟨b4, k * 3 + 1, none⟩ = false := own_free C.o4
                      simp only [Gives]
                      go_simp
                      exact rfl
                    · simp at hx
                  intro vs wt hw hd
                  simp only [putsTo] at hw
                  have d0 := hd 0 (by decide) rfl
                  change vs 0 = _ at d0
                  have d1 := hd 1 (by decide) rfl
                  change vs 1 = _ at d1
                  have d2 := hd 2 (by decide) rfl
                  change vs 2 = _ at d2
                  have d3 := hd 3 (by decide) rfl
                  change vs 3 = _ at d3
                  have d4 := hd 4 (by decide) rfl
                  change vs 4 = _ at d4
                  have d5 := hd 5 (by decide) rfl
                  change vs 5 = _ at d5
                  have d6 := hd 6 (by decide) rfl
                  change vs 6 = _ at d6
                  have d7 := hd 7 (by decide) rfl
                  change vs 7 = _ at d7
                  have d8 := hd 8 (by decide) rfl
                  change vs 8 = _ at d8
                  have d9 := hd 9 (by decide) rfl
                  change vs 9 = _ at d9
                  have d10 := hd 10 (by decide) rfl
                  change vs 10 = _ at d10
                  have d11 := hd 11 (by decide) rfl
                  change vs 11 = _ at d11
                  have d12 := hd 12 (by decide) rfl
                  change vs 12 = _ at d12
                  have d13 := hd 13 (by decide) rfl
                  change vs 13 = _ at d13
                  have d14 := hd 14 (by decide) rfl
                  change vs 14 = _ at d14
                  have d15 := hd 15 (by decide) rfl
                  change vs 15 = _ at d15
                  have d16 := hd 16 (by decide) rfl
                  change vs 16 = _ at d16
                  have d17 := hd 17 (by decide) rfl
                  change vs 17 = _ at d17
                  have d18 := hd 18 (by decide) rfl
                  change vs 18 = _ at d18
                  have d19 := hd 19 (by decide) rfl
                  change vs 19 = _ at d19
                  have d21 := hd 21 (by decide) rfl
                  change vs 21 = _ at d21
                  have d22 := hd 22 (by decide) rfl
                  change vs 22 = _ at d22
                  simp only [d0, d1, d2, d3, d4, d5, d6, d7, d8, d9, d10, d11, d12, d13, d14, d15, d16, d17, d18, d19, d21, d22, List.drop_succ_cons, List.drop_nil]
                  clear hd d0 d1 d2 d3 d4 d5 d6 d7 d8 d9 d10 d11 d12 d13 d14 d15 d16 d17 d18 d19 d21 d22
                  have Q := T2.out.kept (hw.mono (by simp [World.setCell]))
                  rw [List.set_set, show (⟨s.n, s.e, s.u⟩ : Sn) = mvSn true s from rfl, upd_set HS.out] at Q
                  have hg4 : wr.grownBy ((wr.setCell ⟨b4, k * 3, none⟩ (iv s.n)).setCell ⟨b4, k * 3 + 1, none⟩ (iv s.e)) (some b4) := (grownBy_set _ _ _ _).trans (grownBy_set _ _ _ _)
                  have hg5 := hg4.trans ((grown_of_below (hw.mono (by simp [World.setCell]))).but _)
                  clear BB BC
                  have XB := Lib.hid (XB.out.grown hg5 (fun h => by have h2 : y2.heap.size = b4 := Option.some.inj h; omega))
                  have BX := Lib.hid (BX.out.grown hg5 (fun h => by have h2 : w.heap.size = b4 := Option.some.inj h; omega))
                  have HB := Lib.hid (HB.out.grown hg5 HB.out.size (fun b h => by have h2 : b4 = b := Option.some.inj h; omega))
                  have HC := Lib.hid Q
                  clear Q hg4 hg5 hw T1 T2
                  go_wp2_with fail
                  exact ⟨⟨k + 1, by omega, by go_num, HB.out, BX.out, XB.out, HC.out⟩, by simp [intOf]; omega⟩
                · obtain rfl : k = L.sn.length := by omega
                  rw [upd_all] at HC
                  have HC := Lib.hid (show Cop 74 79 80 60 82 y1.heap.size (mvLd e n true L) wr _ _ _ _ _ from HC.out)
                  have HX := Lib.hid (show LandAt wr _ _ _ _ (mvLd e n true L) _ from HC.out.land (by simp [mvLd]; omega) (by simp [mvLd]; omega) (by simp [mvLd]; omega) (by simp [mvLd]; omega) (by
                    intro x hx
                    obtain ⟨z, hz, rfl⟩ := List.mem_map.1 hx
                    rw [List.length_map]
                    exact hlen.out z hz))
                  have HT := Lib.hid (HT0.out.kept HB.out)
                  clear HC
                  have BB := XB.out
                  have cB := fun i => BB.cell i
                  go_wp2_with fail
                  clear cB BB
                  refine (Lfault_any _ _ _ _ (mvLd e n true L) _ _ HX.out).mono ?_
                  rintro r y3 ⟨rfl, hb⟩
                  have HB := Lib.hid (up_later HB.out hb)
                  have HT := Lib.hid (HT.out.kept hb)
                  have BX := Lib.hid (BX.out.kept hb)
                  have XB := Lib.hid (XB.out.kept hb)
                  have HX := Lib.hid (HX.out.kept hb)
                  clear hb
                  by_cases he9 : errI (mvLd e n true L) = 0
                  · rw [he9]
                    have HA9 := Lib.hid (HAL.out true he9)
                    clear he9
                    have BB2 := BX.out
                    have cB2 := fun i => BB2.cell i
                    have BB := XB.out
                    have cB := fun i => BB.cell i
                    go_wp2_with fail
                    clear cB BB
                    clear cB2 BB2
                    refine (alike_any _ _ _ _ _ _ _ _ L (mvLd e n true L) c _ i j _ HT.out HX.out HA9.out).mono ?_
                    rintro r y4 ⟨rfl, hb⟩
                    have HB := Lib.hid (up_later HB.out hb)
                    clear hb
                    go_wp2_with fail
                    refine (awake_any _).mono ?_
                    rintro e y9 ⟨rfl, hb⟩
                    go_wp2_with fail
                    go_ret
                    exact ⟨by simp [go_sem], up_later HB.out hb⟩
                  · have hne : (errI (mvLd e n true L) != 0) = true := by simpa using he9
                    go_wp2_with fail
                    refine (awake_any _).mono ?_
                    rintro e y9 ⟨rfl, hb⟩
                    go_wp2_with fail
                    go_ret
                    exact ⟨by simp [go_sem], up_later HB.out hb⟩

theorem moved_law (v1 v2 v3 v4 : Value) (L : Ld) (c : List (Value × List Cl)) (x y z : Int) (q : Bool) (w : World) (hL : LandAny w v1 v2 v3 v4 L c) (hx : 0 ≤ x ∧ x ≤ 255) (hy : 0 ≤ y ∧ y ≤ 255) (hz : 0 ≤ z ∧ z ≤ 255) :
    Calls Try.prog 12 #[.agg #[v1, v2, v3, v4], .int .u8 x, .int .u8 y, .int .u8 z, .bool q] w fun e w' => e = .returned (.bool true) ∧ Below w.heap.size w w' := by
  cases q with
  | false => exact moved_false v1 v2 v3 v4 L c x y z w hL hx hy hz
  | true => exact moved_true v1 v2 v3 v4 L c x y z w hL hx hy hz

end Go.Proofs.Ytojbdmdjepgpjaa

namespace Go.Proofs.Ytojbdmdjepgpjaa
open Go.ChangeShapes Go.WideShapes Go.ChangeAt Go.RowKit

set_option maxRecDepth 100000 in
theorem hillMoved_lifted (os : Os) (started : os.Started) (H : Type) (enc : TypeId × Value → H) :
    ReturnsInHanded {} Try.checked os 12 .any (Rows.hillMovedSpec.pre6 enc Try.prog Try.f12 Rows.hillMovedRow.domain false) (Rows.hillMovedSpec.post enc Try.prog Try.f12 false true false false) := by
  refine returnsInHanded_of_change (C := Try.checked) own_knob started (by kernel_rfl) Try.func12
    (ChangeSpec.witness6 (enc := enc) (C := Try.checked) false ⟨#[], #[.agg #[.slice Option.none 0 0, .slice Option.none 0 0, .slice Option.none 0 0, .slice Option.none 0 0], .int .u8 0, .int .u8 0, .int .u8 0, .bool false], []⟩ 8 (by kernel_rfl) (by kernel_rfl) (by kernel_rfl) (by kernel_rfl)) ?_
  intro W base args ds gs before hval0 hW hcnd _
  have hval : ∀ (j : Nat) t v, Try.f12.params[j]? = some t → args[j]? = some v → Value.okWide Try.prog W .any base t v := hval0
  have hW' := hW
  obtain ⟨p, q, hA0, hV, rfl, hfz, hnd⟩ := hW
  have hA : DataW.TrodAll enc Try.prog W 0 (fun _ => true) true Try.f12.params.toList args.toList ds p := hA0
  rw [Try.params12] at hA hval
  have hlt : ∀ x ∈ p, x.block < W.heap.size := fun x hx => hW'.lt x (List.mem_append_left _ hx)
  have hAk := hA
  obtain ⟨v0, vs0, d0, ds0, p0, q0, hargs, rfl, rfl, h0, r0⟩ := trodAll_cons hA
  obtain ⟨v1, vs1, d1, ds1, p1, q1, rfl, rfl, rfl, h1, r1⟩ := trodAll_cons r0
  obtain ⟨v2, vs2, d2, ds2, p2, q2, rfl, rfl, rfl, h2, r2⟩ := trodAll_cons r1
  obtain ⟨v3, vs3, d3, ds3, p3, q3, rfl, rfl, rfl, h3, r3⟩ := trodAll_cons r2
  obtain ⟨v4, vs4, d4, ds4, p4, q4, rfl, rfl, rfl, h4, r4⟩ := trodAll_cons r3
  obtain ⟨rfl, rfl, rfl⟩ := trodAll_nil r4
  obtain rfl : args = #[v0, v1, v2, v3, v4] := by cases args; simp_all
  obtain ⟨rfl, rfl⟩ := trodVars_none hV
  obtain ⟨a1, rfl, rfl, rfl, w1⟩ := open_int Try.underlying5 (hval 1 5 v1 rfl rfl) h1
  obtain ⟨a2, rfl, rfl, rfl, w2⟩ := open_int Try.underlying5 (hval 2 5 v2 rfl rfl) h2
  obtain ⟨a3, rfl, rfl, rfl, w3⟩ := open_int Try.underlying5 (hval 3 5 v3 rfl rfl) h3
  obtain ⟨a4, rfl, rfl, rfl⟩ := open_bool Try.underlying4 (hval 4 4 v4 rfl rfl) h4
  obtain ⟨cs, rfl, _⟩ := okWide_struct und27 (hval 0 27 v0 rfl rfl)
  obtain ⟨fuel, h0⟩ := h0
  obtain ⟨u1, u2, u3, u4, L, c, hcs, hL⟩ := open_land h0
  obtain rfl : cs = #[u1, u2, u3, u4] := by
    have h : cs.toList = [u1, u2, u3, u4] := hcs
    cases cs
    simp at h
    rw [h]
  clear hA0 hval0 hval hA
  simp only [List.append_nil] at hW'
  simp only [List.append_nil] at hAk hlt
  refine (moved_law u1 u2 u3 u4 L c a1 a2 a3 a4 W hL (bounds_u8 w1) (bounds_u8 w2) (bounds_u8 w3)).mono fun e W' ⟨he, hg⟩ => ?_
  subst he
  refine ⟨_, rfl, post_below (pv := []) hW' hg (fun _ _ _ => (trodAll_cons_mk (shut_bool Try.underlying4 _) trodAll_mk0)) (fun sp hsp => ?_) (fun _ _ => rfl) (List.append_nil _).symm
    (ok_one (by kernel_rfl) rfl (okWide_bool_mk Try.underlying4 _))⟩
  rw [Try.params12]
  refine args_stay laid_out hg (fun t ht => ?_) hAk hlt sp (fun x hx => hsp x (by first | exact hx | simpa using hx))
  simp only [List.mem_cons, List.not_mem_nil, or_false] at ht
  rcases ht with rfl | rfl | rfl | rfl | rfl
  · exact rec27
  · exact rec5
  · exact rec5
  · exact rec5
  · exact rec4

theorem hillMoved_over : Rows.hillMovedRow.holds Try.pinned (OpenSpec.ofChange Rows.hillMovedSpec) :=
  OpenClaim.holds_of_wide 12 Try.f12 rfl rfl rfl rfl rfl rfl rfl ⟨rfl, rfl, rfl, rfl, rfl⟩ rfl rfl rfl rfl rfl (by kernel_rfl) Try.func12 (by kernel_rfl)
    (of_decide_eq_true (by kernel_rfl)) (by unfold Func.isWrapper; first | (rw [if_pos (by decide +kernel)]; kernel_rfl) | (rw [if_neg (by decide +kernel)]; exact ⟨rfl, rfl⟩))
    (fun os started H enc _ => hillMoved_lifted os started H enc)

theorem HillMoved_holds : Rows.HillMovedSaid := hillMoved_over

end Go.Proofs.Ytojbdmdjepgpjaa

