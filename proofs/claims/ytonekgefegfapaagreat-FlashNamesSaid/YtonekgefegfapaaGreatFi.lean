/-
  WALK of '(search).fewest': the fewest errors from a place on; the map then knows more places. Conditions: the place lies in both strings, the map knows right numbers alone.
-/
import Derived.Test.YtonekgefegfapaaGreatFh
import Derived.RangeFuncNested
namespace Go.Proofs.YtonekgefegfapaaGreat
open Go.RowKit Go.Shelf
attribute [local go_sem] Oper.semAt_some

/-- All that the map knows is right, and of places that are as far as lo. -/
def Good (S R : By) (lo : Nat) (m : List ((Int × Int) × Value)) : Prop := ∀ x ∈ m, ∃ a b : Nat, x.1 = ((a : Int), (b : Int)) ∧ lo ≤ a + b ∧ a ≤ S.length ∧ b ≤ R.length ∧ x.2 = iv (fewI S R (a, b))
theorem Good.mono {S R : By} {lo lo' : Nat} {m : List ((Int × Int) × Value)} (h : Good S R lo m) (hl : lo' ≤ lo) : Good S R lo' m := fun x hx => by
  obtain ⟨a, b, h1, h2, h3⟩ := h x hx
  exact ⟨a, b, h1, by omega, h3⟩
theorem Good.append {S R : By} {lo : Nat} {m m' : List ((Int × Int) × Value)} (h : Good S R lo m) (h' : Good S R lo m') : Good S R lo (m ++ m') := fun x hx => (List.mem_append.1 hx).elim (h x) (h' x)
theorem good_look {S R : By} {lo : Nat} {m : List ((Int × Int) × Value)} (h : Good S R lo m) (i j : Nat) : look m i j = none ∨ look m i j = some (iv (fewI S R (i, j))) := by
  unfold look
  cases hf : m.find? (fun x => x.1 == ((i : Int), (j : Int))) with
  | none => exact .inl rfl
  | some x =>
    obtain ⟨a, b, h1, h2, h3, h4, h5⟩ := h x (List.mem_of_find?_eq_some hf)
    have hx : x.1 = ((i : Int), (j : Int)) := by simpa using List.find?_some hf
    rw [h1] at hx
    injection hx with e1 e2
    have e1' : a = i := by omega
    have e2' : b = j := by omega
    subst e1' e2'
    exact .inr (by simp [h5])
theorem good_far {S R : By} {lo : Nat} {m : List ((Int × Int) × Value)} (h : Good S R lo m) {i j : Nat} (hl : i + j < lo) : look m i j = none := by
  unfold look
  rw [Option.map_eq_none_iff, List.find?_eq_none]
  intro x hx
  obtain ⟨a, b, h1, h2, _⟩ := h x hx
  rw [h1]
  simp only [beq_iff_eq, Prod.mk.injEq, not_and]
  intro e1 e2
  omega
theorem look_append (m m' : List ((Int × Int) × Value)) (i j : Int) (h : look m i j = none) : look (m ++ m') i j = look m' i j := by
  unfold look at h ⊢
  rw [Option.map_eq_none_iff] at h
  rw [List.find?_append, h]
  rfl
/-- A search at work. -/
structure SrAt (w : World) (gs gl gm : Nat) (s r : ByteArray) (m : List ((Int × Int) × Value)) : Prop where
  srch : Box w gs 124 #[.pointer (some ⟨gl, 0, none⟩), .map (some gm)]
  lines : Box w gl 137 (linesC s r)
  map : MapAt w gm m
theorem Box.ne_map {w : World} {g t gm : Nat} {cs : Array Value} {m : List ((Int × Int) × Value)} (h : Box w g t cs) (hm : MapAt w gm m) : g ≠ gm := by
  rintro rfl
  obtain ⟨es, clock, h1, _⟩ := hm
  rw [show w.heap[g]? = _ from h] at h1
  cases h1
section
variable {w w' : World} {gs gl gm : Nat} {s r : ByteArray} {m m' : List ((Int × Int) × Value)}
theorem SrAt.grown (h : SrAt w gs gl gm s r m) (hg : w.grownBy w' (some gm)) (hm : MapAt w' gm m') : SrAt w' gs gl gm s r m' :=
  ⟨h.srch.grown hg (fun e => h.srch.ne_map h.map (Option.some.inj e)), h.lines.grown hg (fun e => h.lines.ne_map h.map (Option.some.inj e)), hm⟩
theorem SrAt.kept (h : SrAt w gs gl gm s r m) (hb : Below w.heap.size w w') : SrAt w' gs gl gm s r m := ⟨h.srch.kept hb, h.lines.kept hb, h.map.kept hb⟩
end
/-- What a call of fewest does: its answer, and what the map knows then. -/
def Few (gm : Nat) (S R : By) (m : List ((Int × Int) × Value)) (p : Nat × Nat) (v : Value) (a b : World) : Prop := v = iv (fewI S R p) ∧ ∃ ex, Good S R (p.1 + p.2) ex ∧ MapAt b gm (m ++ ex) ∧ a.grownBy b (some gm)
theorem few_grown {gm : Nat} {S R : By} {m : List ((Int × Int) × Value)} {p : Nat × Nat} : ∀ v a b, Few gm S R m p v a b → a.grownBy b (some gm) := fun _ _ _ ⟨_, _, _, _, h⟩ => h
theorem eq_place (a b c d : Int) (w : World) : (Op.equal 89 (.agg #[iv a, iv b]) (.agg #[iv c, iv d])).run Tryz.prog w = .ok (a == c && b == d) w := eq_pair' 9998 a b c d w
theorem und122 : Tryz.prog.underlying 122 = some (.map 89 3) := by kernel_rfl
theorem zero3 (w : World) : (zeroValue 3).run Tryz.prog w = .ok (iv 0) w := by kernel_rfl

def Fact.nx (gl i j base : Nat) : Fact := ⟨fun v w => ∃ g1 g2, v = .func (.func 101) #[] #[.pointer (some ⟨g1, 0, none⟩), .pointer (some ⟨g2, 0, none⟩)] ∧ Box w g1 99 #[.pointer (some ⟨gl, 0, none⟩)] ∧ Box w g2 89 #[iv i, iv j] ∧ base ≤ g1 ∧ base ≤ g2, fun _ _ _ h hb => (by obtain ⟨g1, g2, h, h1, h2, h3⟩ := h; exact ⟨g1, g2, h, h1.kept hb, h2.kept hb, h3⟩), false, fun _ _ h => by cases h⟩
theorem callFunc_next1 (args : Array Value) (w : World) : (callFunc 101 args).run Tryz.prog w = .ok (.enter 101 args) w := by kernel_rfl
/-- The fewest errors that some of the steps lead to. -/
def foldE (S R : By) {p : Nat × Nat} (xs : List (Nx S R p)) : Nat := xs.foldl (fun e x => min e (errsN x.1.1 + fewI S R x.1.2)) 120
theorem foldE_end {S R : By} {p : Nat × Nat} {xs : List (Nx S R p)} (h : xs.map (·.1) = nextI S R p) (h1 : p.1 ≤ S.length) (h2 : p.2 ≤ R.length) (hp : p ≠ (S.length, R.length)) : foldE S R xs = fewI S R p := by
  rw [fewI_eq h1 h2 hp, ← h, List.foldl_map]
  rfl
theorem foldE_le {S R : By} {p : Nat × Nat} (xs : List (Nx S R p)) : foldE S R xs ≤ 120 := foldl_le _ _
theorem box_off {B : Nat} {A : World} {row : Option Nat} {k t : Nat} {cs : Array Value} (hb : Box A k t cs) (hr : ∀ r, row = some r → B ≤ r ∧ ∃ o : Obj, A.heap[r]? = some o ∧ o.isCells = false) : some k ≠ row := fun e => by
  obtain ⟨_, o, ho, hc⟩ := hr k e.symm
  rw [show A.heap[k]? = _ from hb] at ho
  cases ho
  cases hc
theorem grown_top {w A B : World} {gm : Nat} {row : Option Nat} (h : w.grownBy A (some gm)) (hg : A.grownBy B row) (hr : ∀ r, row = some r → w.heap.size ≤ r) : w.grownBy B (some gm) :=
  ⟨hg.os.trans h.os, hg.tape.trans h.tape, hg.output.trans h.output, Nat.le_trans h.size hg.size, fun k hk hn => (hg.block k (Nat.lt_of_lt_of_le hk h.size) (fun e => by have := hr k e.symm; omega)).trans (h.block k hk hn)⟩
theorem kept_put (B q1 q2 : Nat) (W : World) (l : Nat) (o o' : Obj) (hl : B ≤ l) (_ : W.heap[l]? = some o) (_ : o.isCells = false) (_ : o.isWalk = false) : KeptBut B q1 q2 W (W.putObj l o') :=
  ⟨by simp, fun k hk _ _ => World.putObj_heap_other (by omega)⟩
/-- What the loop of fewest keeps. -/
structure FewI (w : World) (gs gl gm q Bq i j : Nat) (s r : ByteArray) (m : List ((Int × Int) × Value)) (e : Nat) (W : World) : Prop where
  err : Box W q 3 #[iv e]
  map : ∃ ex, MapAt W gm (m ++ ex) ∧ Good s.data.toList r.data.toList (i + j + 1) ex
  b2 : Box W w.heap.size 84 #[.pointer (some ⟨gs, 0, none⟩)]
  b3 : Box W (w.heap.size + 1) 89 #[iv i, iv j]
  bS : Box W gs 124 #[.pointer (some ⟨gl, 0, none⟩), .map (some gm)]
  bL : Box W gl 137 (linesC s r)
  gr : w.grownBy W (some gm)
  top : Bq ≤ W.heap.size
theorem FewI.off {w : World} {gs gl gm q Bq i j : Nat} {s r : ByteArray} {m : List ((Int × Int) × Value)} {e : Nat} {W W' : World} {row : Option Nat} (h : FewI w gs gl gm q Bq i j s r m e W) (hg : W.grownBy W' row) (hwB : w.heap.size ≤ Bq) (hmB : gm < Bq)
    (hr : ∀ r, row = some r → Bq ≤ r ∧ ∃ o : Obj, W.heap[r]? = some o ∧ o.isCells = false) : FewI w gs gl gm q Bq i j s r m e W' := by
  obtain ⟨h1, ⟨ex, h2, h3⟩, h4, h5, h6, h7, h8, h9⟩ := h
  refine ⟨h1.grown hg (box_off h1 hr), ⟨ex, ?_, h3⟩, h4.grown hg (box_off h4 hr), h5.grown hg (box_off h5 hr), h6.grown hg (box_off h6 hr), h7.grown hg (box_off h7 hr), grown_top h8 hg (fun r e => Nat.le_trans hwB (hr r e).1), Nat.le_trans h9 hg.size⟩
  obtain ⟨es, clock, a1, a2⟩ := h2
  exact ⟨es, clock, (hg.block gm (Array.getElem?_eq_some_iff.1 a1).1 (fun e => by have := (hr gm e.symm).1; omega)).trans a1, a2⟩

theorem FewI.kept {w : World} {gs gl gm q Bq i j : Nat} {s r : ByteArray} {m : List ((Int × Int) × Value)} {e : Nat} {W W' : World} (h : FewI w gs gl gm q Bq i j s r m e W) (hb : Below W.heap.size W W') (hwB : w.heap.size ≤ Bq) (hmB : gm < Bq) : FewI w gs gl gm q Bq i j s r m e W' :=
  h.off (grown_of_below hb) hwB hmB (by simp)
theorem MapAt.far {w : World} {r : Nat} {m : List ((Int × Int) × Value)} (h : MapAt w r m) {p : Addr} (hp : r ≠ p.block) (u : Value) : MapAt (w.setCell p u) r m := by
  obtain ⟨es, clock, h1, h2⟩ := h
  exact ⟨es, clock, (Below.heap_setCell w p u r hp).trans h1, h2⟩
theorem foldE_snoc {S R : By} {p : Nat × Nat} (xs : List (Nx S R p)) (x : Nx S R p) : foldE S R (xs ++ [x]) = min (foldE S R xs) (errsN x.1.1 + fewI S R x.1.2) := by
  unfold foldE
  rw [List.foldl_append]
  rfl
theorem kept_of_below {B q1 q2 : Nat} {W W' : World} (h : Below W.heap.size W W') (hB : B ≤ W.heap.size) : KeptBut B q1 q2 W W' := ⟨h.size, fun k hk _ _ => h.block k (by omega)⟩

set_option maxRecDepth 100000 in
set_option maxHeartbeats 3000000 in
theorem fewest_in (gs gl gm : Nat) (s r : ByteArray) (hs9 : s.size ≤ 40) (hr9 : r.size ≤ 40) (f : Nat)
    (ih : ∀ (a c : Nat) (m : List ((Int × Int) × Value)) (w : World), leftN s.data.toList r.data.toList (a, c) < f → a ≤ s.size → c ≤ r.size → SrAt w gs gl gm s r m → Good s.data.toList r.data.toList 0 m →
      Calls Tryz.prog 58 #[.pointer (some ⟨gs, 0, none⟩), .agg #[iv a, iv c]] w fun e w' => ∃ v, e = .returned v ∧ Few gm s.data.toList r.data.toList m (a, c) v w w')
    (i j : Nat) (m : List ((Int × Int) × Value)) (w : World) (hf : leftN s.data.toList r.data.toList (i, j) ≤ f) (hi : i ≤ s.size) (hj : j ≤ r.size) (hS : SrAt w gs gl gm s r m) (hG : Good s.data.toList r.data.toList 0 m) :
    CallsIn Fence.wide 9 Tryz.prog 58 #[.pointer (some ⟨gs, 0, none⟩), .agg #[iv i, iv j]] w fun e w' => ∃ v, e = .returned v ∧ Few gm s.data.toList r.data.toList m (i, j) v w w' := by
  have HS := Lib.hid hS
  have HG := Lib.hid hG
  clear hS hG
  have b2 := (Box.new (w := w) (t := 84) (cs := #[.pointer (some ⟨gs, 0, none⟩)]) rfl).alloc (.cells #[iv i, iv j] 89)
  have b3 := Box.new (w := w.alloc (.cells #[.pointer (some ⟨gs, 0, none⟩)] 84)) (g := w.heap.size + 1) (t := 89) (cs := #[iv i, iv j]) (by simp)
  have hB : Below w.heap.size w ((w.alloc (.cells #[.pointer (some ⟨gs, 0, none⟩)] 84)).alloc (.cells #[iv i, iv j] 89)) := up_alloc (up_alloc up0 _) _
  have bS := HS.out.srch.kept hB
  have HL := Lib.hid (HS.out.lines.kept hB)
  refine callsIn_of_wp_marks Tryz.func58 rfl trivial ?_ rfl
  simp only [Tryz.ntmps58, List.size_toArray, List.length_cons, List.length_nil, Nat.reduceAdd, Nat.reduceSub, Array.replicate_succ, Array.replicate_zero, List.push_toArray, List.append_toArray, List.nil_append, List.cons_append]
  gi_wp2_with fail
  by_cases he : i = s.size ∧ j = r.size
  · obtain ⟨rfl, rfl⟩ := he
    have Hr := Lib.hid (show fewI s.data.toList r.data.toList (s.size, r.size) = 0 by rw [Lib.size_eq, Lib.size_eq, fewI_end])
    apply wpIn_region_by open_wide 7 [(Fact.eq _), (Fact.eq _), (Fact.eq _), (Fact.eq _), (Fact.eq _), (Fact.eq _), (Fact.eq _)]
    case hm => kernel_rfl
    case hB => kernel_rfl
    case hpl => kernel_rfl
    case hA => (intro vs; simp only [List.take_succ_cons, List.take_zero, putAll, if_true, Act.put, List.setIfInBounds_toArray, List.set_cons_zero, List.set_cons_succ]; exact rfl)
    case hstep =>
      intro vs
      refine And.intro (fun w hw hd => ?_) ?_
      · refine ite_yes rfl ?_
        have c_b2 := fun i => (b2.kept hw).cell i
        have c_b3 := fun i => (b3.kept hw).cell i
        have c_bS := fun i => (bS.kept hw).cell i
        simp only [Gives]
        go_simp
        exact ⟨Below.refl _ _, rfl, fun h => by cases h⟩
      refine And.intro (fun w hw hd => ?_) ?_
      · refine ite_yes rfl ?_
        have c_b2 := fun i => (b2.kept hw).cell i
        have c_b3 := fun i => (b3.kept hw).cell i
        have c_bS := fun i => (bS.kept hw).cell i
        simp only [Gives]
        go_simp
        exact ⟨Below.refl _ _, rfl, fun h => by cases h⟩
      refine And.intro (fun w hw hd => ?_) ?_
      · have d1 := hd 1 (by decide) rfl
        change vs 1 = _ at d1
        refine ite_yes rfl ?_
        simp only [Gives]
        go_simp
        exact ⟨Below.refl _ _, rfl, fun h => by cases h⟩
      refine And.intro (fun w hw hd => ?_) ?_
      · have d2 := hd 2 (by decide) rfl
        change vs 2 = _ at d2
        refine ite_yes rfl ?_
        simp only [Gives]
        go_simp
        exact ⟨Below.refl _ _, rfl, fun h => by cases h⟩
      refine And.intro (fun w hw hd => ?_) ?_
      · have d3 := hd 3 (by decide) rfl
        change vs 3 = _ at d3
        refine ite_yes rfl ?_
        have c_b2 := fun i => (b2.kept hw).cell i
        have c_b3 := fun i => (b3.kept hw).cell i
        have c_bS := fun i => (bS.kept hw).cell i
        simp only [Gives]
        go_simp
        exact ⟨Below.refl _ _, rfl, fun h => by cases h⟩
      refine And.intro (fun w hw hd => ?_) ?_
      · have d4 := hd 4 (by decide) rfl
        change vs 4 = _ at d4
        refine ite_yes rfl ?_
        simp only [Gives]
        go_simp
        refine (end_any gl s r w (HL.out.kept hw)).mono ?_
        rintro e w1 ⟨rfl, hb⟩
        exact ⟨_, rfl, hb, rfl, fun h => by cases h⟩
      refine And.intro (fun w hw hd => ?_) ?_
      · have d0 := hd 0 (by decide) rfl
        change vs 0 = _ at d0
        have d5 := hd 5 (by decide) rfl
        change vs 5 = _ at d5
        refine ite_yes rfl ?_
        simp only [Gives]
        go_simp
        exact ⟨Below.refl _ _, rfl, fun h => by cases h⟩
      exact trivial
    intro vs wt hw hd hne hlo
    have d0 := hd 0 (by decide)
    change vs 0 = _ at d0
    have d1 := hd 1 (by decide)
    change vs 1 = _ at d1
    have d2 := hd 2 (by decide)
    change vs 2 = _ at d2
    have d3 := hd 3 (by decide)
    change vs 3 = _ at d3
    have d4 := hd 4 (by decide)
    change vs 4 = _ at d4
    have d5 := hd 5 (by decide)
    change vs 5 = _ at d5
    have d6 := hd 6 (by decide)
    change vs 6 = _ at d6
    simp only [d0, d1, d2, d3, d4, d5, d6, List.drop_succ_cons, List.drop_nil]
    have b2 := b2.kept hw
    have b3 := b3.kept hw
    have bS := bS.kept hw
    have c_b2 := fun i => b2.cell i
    have f_b2 := fun i => b2.free i
    have c_b3 := fun i => b3.cell i
    have f_b3 := fun i => b3.free i
    have c_bS := fun i => bS.cell i
    have f_bS := fun i => bS.free i
    clear hd hne hlo d0 d1 d2 d3 d4 d5 d6
    go_wp2_with fail
    gi_wp2_with fail
    refine ⟨_, results_tmp rfl _ _ _, _, rfl, by rw [Hr.out]; rfl, [], by simp [Good], ?_, ?_⟩
    · rw [List.append_nil]; exact HS.out.map.kept (up_later hB hw)
    · exact (grown_of_below (up_later hB hw)).but _
  have HE2 : Hid ((i : Int) = (s.size : Int) → ¬ (j : Int) = (r.size : Int)) := Lib.hid fun h1 h2 => he ⟨by omega, by omega⟩
  have HE := Lib.hid (show (i, j) ≠ (s.data.toList.length, r.data.toList.length) from fun h => by
    injection h with h1 h2
    exact he ⟨by rw [Lib.size_eq]; exact h1, by rw [Lib.size_eq]; exact h2⟩)
  clear he
  apply wpIn_region_by open_wide 7 [(Fact.eq _), (Fact.eq _), (Fact.eq _), (Fact.eq _), (Fact.eq _), (Fact.eq _), (Fact.eq (.bool false))]
  case hm => kernel_rfl
  case hB => kernel_rfl
  case hpl => kernel_rfl
  case hA => (intro vs; simp only [List.take_succ_cons, List.take_zero, putAll, if_true, Act.put, List.setIfInBounds_toArray, List.set_cons_zero, List.set_cons_succ]; exact rfl)
  case hstep =>
    intro vs
    refine And.intro (fun w hw hd => ?_) ?_
    · refine ite_yes rfl ?_
      have c_b2 := fun i => (b2.kept hw).cell i
      have c_b3 := fun i => (b3.kept hw).cell i
      have c_bS := fun i => (bS.kept hw).cell i
      simp only [Gives]
      go_simp
      exact ⟨Below.refl _ _, rfl, fun h => by cases h⟩
    refine And.intro (fun w hw hd => ?_) ?_
    · refine ite_yes rfl ?_
      have c_b2 := fun i => (b2.kept hw).cell i
      have c_b3 := fun i => (b3.kept hw).cell i
      have c_bS := fun i => (bS.kept hw).cell i
      simp only [Gives]
      go_simp
      exact ⟨Below.refl _ _, rfl, fun h => by cases h⟩
    refine And.intro (fun w hw hd => ?_) ?_
    · have d1 := hd 1 (by decide) rfl
      change vs 1 = _ at d1
      refine ite_yes rfl ?_
      simp only [Gives]
      go_simp
      exact ⟨Below.refl _ _, rfl, fun h => by cases h⟩
    refine And.intro (fun w hw hd => ?_) ?_
    · have d2 := hd 2 (by decide) rfl
      change vs 2 = _ at d2
      refine ite_yes rfl ?_
      simp only [Gives]
      go_simp
      exact ⟨Below.refl _ _, rfl, fun h => by cases h⟩
    refine And.intro (fun w hw hd => ?_) ?_
    · have d3 := hd 3 (by decide) rfl
      change vs 3 = _ at d3
      refine ite_yes rfl ?_
      have c_b2 := fun i => (b2.kept hw).cell i
      have c_b3 := fun i => (b3.kept hw).cell i
      have c_bS := fun i => (bS.kept hw).cell i
      simp only [Gives]
      go_simp
      exact ⟨Below.refl _ _, rfl, fun h => by cases h⟩
    refine And.intro (fun w hw hd => ?_) ?_
    · have d4 := hd 4 (by decide) rfl
      change vs 4 = _ at d4
      refine ite_yes rfl ?_
      simp only [Gives]
      go_simp
      refine (end_any gl s r w (HL.out.kept hw)).mono ?_
      rintro e w1 ⟨rfl, hb⟩
      exact ⟨_, rfl, hb, rfl, fun h => by cases h⟩
    refine And.intro (fun w hw hd => ?_) ?_
    · have d0 := hd 0 (by decide) rfl
      change vs 0 = _ at d0
      have d5 := hd 5 (by decide) rfl
      change vs 5 = _ at d5
      refine ite_yes rfl ?_
      simp only [Gives]
      go_simp
      by_cases q1 : (i : Int) = (s.size : Int)
      · (have q2 := HE2.out q1; rw [if_pos q1, if_neg q2]; exact ⟨Below.refl _ _, rfl, fun h => by cases h⟩)
      · (rw [if_neg q1]; exact ⟨Below.refl _ _, rfl, fun h => by cases h⟩)
    exact trivial
  intro vs wt hw hd hne hlo
  have d0 := hd 0 (by decide)
  change vs 0 = _ at d0
  have d1 := hd 1 (by decide)
  change vs 1 = _ at d1
  have d2 := hd 2 (by decide)
  change vs 2 = _ at d2
  have d3 := hd 3 (by decide)
  change vs 3 = _ at d3
  have d4 := hd 4 (by decide)
  change vs 4 = _ at d4
  have d5 := hd 5 (by decide)
  change vs 5 = _ at d5
  have d6 := hd 6 (by decide)
  change vs 6 = _ at d6
  simp only [d0, d1, d2, d3, d4, d5, List.drop_succ_cons, List.drop_nil]
  have b2 := b2.kept hw
  have b3 := b3.kept hw
  have bS := bS.kept hw
  have c_b2 := fun i => b2.cell i
  have f_b2 := fun i => b2.free i
  have c_b3 := fun i => b3.cell i
  have f_b3 := fun i => b3.free i
  have c_bS := fun i => bS.cell i
  have f_bS := fun i => bS.free i
  clear hd hne hlo d0 d1 d2 d3 d4 d5
  simp only [Nat.zero_add, Nat.reduceAdd, d6]
  go_wp2_with fail
  gi_wp2_with fail
  have bS := bS
  have b2 := b2
  have b3 := b3
  have HM := Lib.hid (HS.out.map.kept (up_later hB hw))
  have hB := up_later hB hw
  have HL := Lib.hid (HL.out.kept hw)
  clear hw d6
  rcases good_look HG.out i j with hlk | hlk
  · have HLk := Lib.hid hlk
    clear hlk
    apply wpIn_region_by open_wide 11 [(Fact.eq _), (Fact.eq _), (Fact.eq _), (Fact.eq _), (Fact.eq _), (Fact.eq (.tuple #[iv 0, .bool false])), (Fact.eq _), (Fact.eq _), (Fact.eq _), (Fact.eq _), (Fact.eq _)]
    case hm => kernel_rfl
    case hB => kernel_rfl
    case hpl => kernel_rfl
    case hA => (intro vs; simp only [List.take_succ_cons, List.take_zero, putAll, if_true, Act.put, List.setIfInBounds_toArray, List.set_cons_zero, List.set_cons_succ]; exact rfl)
    case hstep =>
      intro vs
      refine And.intro (fun w hw hd => ?_) ?_
      · refine ite_yes rfl ?_
        have c_b2 := fun i => (b2.kept hw).cell i
        have c_b3 := fun i => (b3.kept hw).cell i
        have c_bS := fun i => (bS.kept hw).cell i
        simp only [Gives]
        go_simp
        exact ⟨Below.refl _ _, rfl, fun h => by cases h⟩
      refine And.intro (fun w hw hd => ?_) ?_
      · have d0 := hd 0 (by decide) rfl
        change vs 0 = _ at d0
        refine ite_yes rfl ?_
        simp only [Gives]
        go_simp
        exact ⟨Below.refl _ _, rfl, fun h => by cases h⟩
      refine And.intro (fun w hw hd => ?_) ?_
      · have d1 := hd 1 (by decide) rfl
        change vs 1 = _ at d1
        refine ite_yes rfl ?_
        simp only [Gives]
        go_simp
        exact ⟨Below.refl _ _, rfl, fun h => by cases h⟩
      refine And.intro (fun w hw hd => ?_) ?_
      · have d2 := hd 2 (by decide) rfl
        change vs 2 = _ at d2
        refine ite_yes rfl ?_
        have c_b2 := fun i => (b2.kept hw).cell i
        have c_b3 := fun i => (b3.kept hw).cell i
        have c_bS := fun i => (bS.kept hw).cell i
        simp only [Gives]
        go_simp
        exact ⟨Below.refl _ _, rfl, fun h => by cases h⟩
      refine And.intro (fun w hw hd => ?_) ?_
      · refine ite_yes rfl ?_
        have c_b2 := fun i => (b2.kept hw).cell i
        have c_b3 := fun i => (b3.kept hw).cell i
        have c_bS := fun i => (bS.kept hw).cell i
        simp only [Gives]
        go_simp
        exact ⟨Below.refl _ _, rfl, fun h => by cases h⟩
      refine And.intro (fun w hw hd => ?_) ?_
      · have d3 := hd 3 (by decide) rfl
        change vs 3 = _ at d3
        have d4 := hd 4 (by decide) rfl
        change vs 4 = _ at d4
        refine ite_yes rfl ?_
        simp only [Gives]
        have hl := run_lookup und122 pair_key zero3 (HM.out.kept hw) i j true
        rw [HLk.out] at hl
        go_simp
        exact ⟨Below.refl _ _, rfl, fun h => by cases h⟩
      refine And.intro (fun w hw hd => ?_) ?_
      · have d5 := hd 5 (by decide) rfl
        change vs 5 = _ at d5
        refine ite_yes rfl ?_
        simp only [Gives]
        go_simp
        exact ⟨Below.refl _ _, rfl, fun h => by cases h⟩
      refine And.intro (fun w hw hd => ?_) ?_
      · have d6 := hd 6 (by decide) rfl
        change vs 6 = _ at d6
        refine ite_yes rfl ?_
        simp only [Gives]
        go_simp
        exact ⟨Below.refl _ _, rfl, fun h => by cases h⟩
      refine And.intro (fun w hw hd => ?_) ?_
      · have d6 := hd 6 (by decide) rfl
        change vs 6 = _ at d6
        refine ite_yes rfl ?_
        simp only [Gives]
        go_simp
        exact ⟨Below.refl _ _, rfl, fun h => by cases h⟩
      refine And.intro (fun w hw hd => ?_) ?_
      · have d7 := hd 7 (by decide) rfl
        change vs 7 = _ at d7
        refine ite_yes rfl ?_
        simp only [Gives]
        go_simp
        exact ⟨Below.refl _ _, rfl, fun h => by cases h⟩
      refine And.intro (fun w hw hd => ?_) ?_
      · have d8 := hd 8 (by decide) rfl
        change vs 8 = _ at d8
        refine ite_yes rfl ?_
        simp only [Gives]
        go_simp
        exact ⟨Below.refl _ _, rfl, fun h => by cases h⟩
      exact trivial
    intro vs wt hw hd hne hlo
    have d0 := hd 0 (by decide)
    change vs 0 = _ at d0
    have d1 := hd 1 (by decide)
    change vs 1 = _ at d1
    have d2 := hd 2 (by decide)
    change vs 2 = _ at d2
    have d3 := hd 3 (by decide)
    change vs 3 = _ at d3
    have d4 := hd 4 (by decide)
    change vs 4 = _ at d4
    have d5 := hd 5 (by decide)
    change vs 5 = _ at d5
    have d6 := hd 6 (by decide)
    change vs 6 = _ at d6
    have d7 := hd 7 (by decide)
    change vs 7 = _ at d7
    have d8 := hd 8 (by decide)
    change vs 8 = _ at d8
    have d9 := hd 9 (by decide)
    change vs 9 = _ at d9
    have d10 := hd 10 (by decide)
    change vs 10 = _ at d10
    simp only [d0, d1, d2, d3, d4, d6, d7, d8, d9, d10, List.drop_succ_cons, List.drop_nil]
    have b2 := b2.kept hw
    have b3 := b3.kept hw
    have bS := bS.kept hw
    have c_b2 := fun i => b2.cell i
    have f_b2 := fun i => b2.free i
    have c_b3 := fun i => b3.cell i
    have f_b3 := fun i => b3.free i
    have c_bS := fun i => bS.cell i
    have f_bS := fun i => bS.free i
    clear hd hne hlo d0 d1 d2 d3 d4 d6 d7 d8 d9 d10
    simp only [Nat.zero_add, Nat.reduceAdd, d5]
    go_wp2_with fail
    gi_wp2_with fail
    have hBt := up_later hB hw
    have hq3 : w.heap.size + 1 < wt.heap.size := b3.lt
    have HM0 := Lib.hid (HM.out.kept hw)
    obtain ⟨q, hq⟩ : ∃ q, wt.heap.size = q := ⟨_, rfl⟩
    have be : Box (wt.alloc (.cells #[iv 120] 3)) q 3 #[iv 120] := Box.new hq.symm
    have b2 := b2.alloc (.cells #[iv 120] 3)
    have b3 := b3.alloc (.cells #[iv 120] 3)
    have bS := bS.alloc (.cells #[iv 120] 3)
    have HL := Lib.hid ((HL.out.kept hw).alloc (.cells #[iv 120] 3))
    have HM := Lib.hid (HM0.out.kept (up_alloc up0 (.cells #[iv 120] 3)))
    have hB := up_alloc hBt (.cells #[iv 120] 3)
    have hqw := hBt.size
    have hmq := HM0.out.lt
    have hzq : (wt.alloc (.cells #[iv 120] 3)).heap.size = q + 1 := by simp [hq]
    obtain ⟨X, hX⟩ : ∃ X, wt.alloc (.cells #[iv 120] 3) = X := ⟨_, rfl⟩
    rw [hX] at be b2 b3 bS HL HM hB hzq ⊢
    rw [hq] at hqw hmq hq3 ⊢
    clear hX hw hBt HM0 d5 hq
    apply wpIn_region_by open_wide 6 [(Fact.eq _), (Fact.eq _), (Fact.eq _), (Fact.eq _), (Fact.eq _), (Fact.nx gl i j X.heap.size)]
    case hm => kernel_rfl
    case hB => kernel_rfl
    case hpl => kernel_rfl
    case hA => (intro vs; simp only [List.take_succ_cons, List.take_zero, putAll, if_true, Act.put, List.setIfInBounds_toArray, List.set_cons_zero, List.set_cons_succ]; exact rfl)
    case hstep =>
      intro vs
      refine And.intro (fun w hw hd => ?_) ?_
      · refine ite_yes rfl ?_
        have c_b2 := fun i => (b2.kept hw).cell i
        have c_b3 := fun i => (b3.kept hw).cell i
        have c_bS := fun i => (bS.kept hw).cell i
        simp only [Gives]
        go_simp
        exact ⟨Below.refl _ _, rfl, fun h => by cases h⟩
      refine And.intro (fun w hw hd => ?_) ?_
      · have d0 := hd 0 (by decide) rfl
        change vs 0 = _ at d0
        refine ite_yes rfl ?_
        simp only [Gives]
        go_simp
        exact ⟨Below.refl _ _, rfl, fun h => by cases h⟩
      refine And.intro (fun w hw hd => ?_) ?_
      · have d1 := hd 1 (by decide) rfl
        change vs 1 = _ at d1
        refine ite_yes rfl ?_
        simp only [Gives]
        go_simp
        exact ⟨Below.refl _ _, rfl, fun h => by cases h⟩
      refine And.intro (fun w hw hd => ?_) ?_
      · have d2 := hd 2 (by decide) rfl
        change vs 2 = _ at d2
        refine ite_yes rfl ?_
        have c_b2 := fun i => (b2.kept hw).cell i
        have c_b3 := fun i => (b3.kept hw).cell i
        have c_bS := fun i => (bS.kept hw).cell i
        simp only [Gives]
        go_simp
        exact ⟨Below.refl _ _, rfl, fun h => by cases h⟩
      refine And.intro (fun w hw hd => ?_) ?_
      · refine ite_yes rfl ?_
        have c_b2 := fun i => (b2.kept hw).cell i
        have c_b3 := fun i => (b3.kept hw).cell i
        have c_bS := fun i => (bS.kept hw).cell i
        simp only [Gives]
        go_simp
        exact ⟨Below.refl _ _, rfl, fun h => by cases h⟩
      refine And.intro (fun w hw hd => ?_) ?_
      · have d3 := hd 3 (by decide) rfl
        change vs 3 = _ at d3
        have d4 := hd 4 (by decide) rfl
        change vs 4 = _ at d4
        refine ite_yes rfl ?_
        simp only [Gives]
        have hz9 := hw.size
        go_simp
        refine (next_any gl i j w).mono ?_
        rintro e w7 ⟨rfl, n1, n2, hb⟩
        exact ⟨_, rfl, hb, ⟨_, _, rfl, n1, n2, by omega, by omega⟩, fun h => by cases h⟩
      exact trivial
    intro vs wt hw hd hne hlo
    have d0 := hd 0 (by decide)
    change vs 0 = _ at d0
    have d1 := hd 1 (by decide)
    change vs 1 = _ at d1
    have d2 := hd 2 (by decide)
    change vs 2 = _ at d2
    have d3 := hd 3 (by decide)
    change vs 3 = _ at d3
    have d4 := hd 4 (by decide)
    change vs 4 = _ at d4
    have d5 := hd 5 (by decide)
    obtain ⟨g1, g2, d5, n1, n2, lo1, lo2⟩ := d5
    simp only [d0, d1, d2, d3, d4, List.drop_succ_cons, List.drop_nil]
    have b2 := b2.kept hw
    have b3 := b3.kept hw
    have bS := bS.kept hw
    have c_b2 := fun i => b2.cell i
    have f_b2 := fun i => b2.free i
    have c_b3 := fun i => b3.cell i
    have f_b3 := fun i => b3.free i
    have c_bS := fun i => bS.cell i
    have f_bS := fun i => bS.free i
    clear hd hne hlo d0 d1 d2 d3 d4
    simp only [Nat.zero_add, Nat.reduceAdd, d5]
    obtain ⟨W0, hW0⟩ : ∃ W0, wt = W0 := ⟨_, rfl⟩
    rw [hW0] at hw n1 n2 b2 b3 bS ⊢
    clear hW0 d5
    have be := be.kept hw
    have bL := HL.out.kept hw
    have HM := Lib.hid (HM.out.kept hw)
    have hB := up_later hB hw
    have l1 := n1.lt
    have l2 := n2.lt
    have l3 := bL.lt
    have lS := bS.lt
    have hsz := hw.size
    have mS := bS.ne_map HM.out
    have mL := bL.ne_map HM.out
    have lL := HS.out.lines.lt
    have lS0 := HS.out.srch.lt
    have lM := HS.out.map.lt
    have hwW := hB.size
    clear HL hw
    go_wp2_with fail
    gi_wp2_with fail
    have hg1 : g1 ≠ gm ∧ g1 ≠ q := ⟨by omega, by omega⟩
    have hg2 : g2 ≠ gm ∧ g2 ≠ q := ⟨by omega, by omega⟩
    have hgl : gl ≠ gm ∧ gl ≠ q := ⟨mL, by omega⟩
    have HSq := Lib.hid (next1_stops 8 (by omega) g1 g2 gl i j W0.heap.size gm q s r W0 hi hj (by omega) (by omega) n1 n2 bL rfl hg1 hg2 hgl)
    have h0I : FewI w gs gl gm q W0.heap.size i j s r m (foldE s.data.toList r.data.toList (p := (i, j)) []) W0 := ⟨be, ⟨[], by rw [List.append_nil]; exact HM.out, by simp [Good]⟩, b2, b3, bS, bL, (grown_of_below hB).but _, Nat.le_refl _⟩
    have hwB : w.heap.size ≤ W0.heap.size := hwW
    have hmB : gm < W0.heap.size := by omega
    have H0I := Lib.hid h0I
    clear be b2 b3 bS bL HM hB n1 n2 h0I
    refine wpIn_rangeFunc_ownH rfl (by omega) (gf := 101) (lb := #[.pointer (some ⟨g1, 0, none⟩), .pointer (some ⟨g2, 0, none⟩)]) rfl trivial callFunc_next1 HSq.out (fun {A B C} h k => KeptBut.trans h k) (fun W l o o' a b c d => kept_put _ _ _ W l o o' a b c d) (Below.refl _ _) (fun _ => rfl)
      (fun pre W => FewI w gs gl gm q W0.heap.size i j s r m (foldE s.data.toList r.data.toList pre) W) (fun _ _ _ => False) ?hI (fun _ => fun _ _ _ _ h _ _ => h) H0I.out
      (fun x a' W => ∃ Bx, W0.heap.size ≤ Bx ∧ Box W Bx 89 #[iv x.1.2.1, iv x.1.2.2] ∧ a' = { tmps := #[.pointer (some ⟨gs, 0, none⟩), .agg #[iv i, iv j], .pointer (some ⟨w.heap.size, 0, none⟩), .pointer (some ⟨w.heap.size + 1, 0, none⟩), iv 0, iv 0, .bool false, .pointer (some ⟨q, 0, none⟩), iv x.1.1, .pointer (some ⟨Bx, 0, none⟩), .agg #[iv i, iv j], .pointer (some ⟨gs, 0, none⟩), .pointer (some ⟨gs, 0, none⟩), .pointer (some ⟨gs, 0, none⟩), .pointer (some ⟨gl, 0, none⟩), .agg #[iv s.size, iv r.size], .bool false, .tuple #[iv 0, .bool false], .pointer (some ⟨gs, 0, none⟩), .pointer (some ⟨gs, 0, none⟩), .pointer (some ⟨gs, 1, none⟩), .map (some gm), .agg #[iv i, iv j], .tuple #[iv 0, .bool false], iv 0, .bool false, .bool false, undef, .pointer (some ⟨gs, 0, none⟩), .pointer (some ⟨gs, 0, none⟩), .pointer (some ⟨gs, 0, none⟩), .pointer (some ⟨gl, 0, none⟩), .agg #[iv i, iv j], .func (.func 101) #[] #[.pointer (some ⟨g1, 0, none⟩), .pointer (some ⟨g2, 0, none⟩)], iv x.1.1, .agg #[iv x.1.2.1, iv x.1.2.2], undef, undef, undef, undef, undef, undef, undef, undef, undef, undef, undef, undef, undef, undef, undef, undef, undef, undef, undef, undef, undef, undef, undef, undef], defers := [] }) ?hAx ?assign ?body ?done ?stop
    case hI =>
      intro pre A B row h hg hr
      exact h.off hg hwB hmB hr
    case hAx =>
      rintro x a' _ A B row ⟨Bx, h1, h2, h3⟩ hg hr
      exact ⟨Bx, h1, h2.grown hg (box_off h2 hr), h3⟩
    case assign =>
      rintro l pre x W K hI hK
      simp only [Nx.enc]
      gi_wp2_with fail
      exact hK _ _ ((KeepsOthers.alloc _ _).from _) (kept_of_below (up_alloc up0 _) hI.top) (hI.kept (up_alloc up0 _) hwB hmB) ⟨W.heap.size, hI.top, Box.new rfl, rfl⟩
    case body =>
      rintro l pre ⟨⟨k, a, c⟩, hk6, hq⟩ a' W hl ⟨rr, hrr⟩ hI ⟨Bx, hBx, bX, rfl⟩ hlen
      simp only at hk6 hq bX ⊢
      have HI := Lib.hid hI
      obtain ⟨e1, ⟨ex, m1, gd⟩, c2, c3, cS, cL, gr, tp⟩ := hI
      have hls := Lib.size_eq s
      have hlr := Lib.size_eq r
      have hin := aftI_in hk6 (by omega) (by omega) hq
      have ha : a ≤ s.size := by omega
      have hc : c ≤ r.size := by omega
      have hlt : leftN s.data.toList r.data.toList (a, c) < f := by
        unfold leftN at hf ⊢
        simp only at hf ⊢
        omega
      have hfar : i + j + 1 ≤ a + c := by omega
      obtain ⟨E, hE⟩ : ∃ E, foldE s.data.toList r.data.toList pre = E := ⟨_, rfl⟩
      have hE9 : E ≤ 120 := by rw [← hE]; exact foldE_le pre
      rw [hE] at e1
      obtain ⟨V, hV⟩ : ∃ V, fewI s.data.toList r.data.toList (a, c) = V := ⟨_, rfl⟩
      have hV9 : V ≤ 120 := by rw [← hV]; exact fewI_le (by simp only; omega) (by simp only; omega)
      have hen : errsN k ≤ 1 := by unfold errsN; split <;> omega
      obtain ⟨en, hen2⟩ : ∃ en, errsN k = en := ⟨_, rfl⟩
      have HE1 := Lib.hid (show foldE s.data.toList r.data.toList (pre ++ [⟨(k, a, c), hk6, hq⟩]) = min E (en + V) by rw [foldE_snoc, hE, ← hen2, ← hV])
      have HSr := Lib.hid (show SrAt W gs gl gm s r (m ++ ex) from ⟨cS, cL, m1⟩)
      have HGd := Lib.hid (show Good s.data.toList r.data.toList 0 (m ++ ex) from HG.out.append (gd.mono (Nat.zero_le _)))
      have HV := Lib.hid hV
      have HEn := Lib.hid hen2
      have HGx := Lib.hid gd
      have HGr := Lib.hid gr
      have n_e1 : some q ≠ some gm := fun e => by have := Option.some.inj e; omega
      have n_c2 : some w.heap.size ≠ some gm := fun e => by have := Option.some.inj e; omega
      have n_cS : some gs ≠ some gm := fun e => mS (Option.some.inj e)
      have n_bX : some Bx ≠ some gm := fun e => by have := Option.some.inj e; omega
      have nL : some gl ≠ some gm := fun e => mL (Option.some.inj e)
      have k0 : (0 : Int) ≤ (k : Int) := by omega
      have k1 : (k : Int) < 6 := by omega
      rw [hen2] at hen
      clear hls hlr hin hE hV hen2 gd gr hrr
      gi_wp2_with fail

      have hrow : ∀ x, some gm = some x → x < W.heap.size := fun x e => by cases e; omega
      have hW : IntKind.i64.wrap ((en : Int) + (V : Int)) = (en : Int) + (V : Int) := wrapK_in _ 3000 (by omega) (by omega)
      have HLe := Lib.hid (show leastI (E : Int) [(en : Int) + (V : Int)] = ((min E (en + V) : Nat) : Int) by simp only [leastI, List.foldl_cons, List.foldl_nil]; omega)
      apply wpIn_region_oncev (open_round _) 17 13 (some gm) [(FactR.eq _ _), (FactR.eq _ _), (FactR.eq _ _), (FactR.eq _ _), (FactR.eq _ _), (FactR.eq _ _), (FactR.eq _ _), (FactR.eq _ _), (FactR.eq _ _), (FactR.eq _ _), (FactR.eq _ _), (FactR.eq _ _), (FactR.eq _ _), (FactR.eq _ (iv (V : Nat))), (FactR.eq _ _), (FactR.sl _ 1 3 #[iv ((en : Int) + (V : Int))]), (FactR.eq _ _)] (Few gm s.data.toList r.data.toList (m ++ ex) (a, c))
      case hm => kernel_rfl
      case hB => kernel_rfl
      case hpl => kernel_rfl
      case hpn => decide
      case hFp => exact few_grown
      case hA => (intro vs; simp only [List.take_succ_cons, List.take_zero, putAll, if_true, Act.put, List.setIfInBounds_toArray, List.set_cons_zero, List.set_cons_succ]; exact rfl)
      case hstep =>
        intro vs
        refine And.intro (fun _ w hw hd => ?_) ?_
        · refine ite_yes rfl ?_
          have c_e1 := fun i => (e1.grown hw n_e1).cell i
          have c_c2 := fun i => (c2.grown hw n_c2).cell i
          have c_cS := fun i => (cS.grown hw n_cS).cell i
          have c_bX := fun i => (bX.grown hw n_bX).cell i
          have q3 : w.cell? ⟨gl, 2 + k * 4 + 3, none⟩ = some (iv (en : Nat)) := HEn.out ▸ lines_err (cL.grown hw nL) hk6
          simp only [Gives]
          go_simp
          exact ⟨Below.refl _ _, rfl⟩
        refine And.intro (fun _ w hw hd => ?_) ?_
        · refine ite_yes rfl ?_
          have c_e1 := fun i => (e1.grown hw n_e1).cell i
          have c_c2 := fun i => (c2.grown hw n_c2).cell i
          have c_cS := fun i => (cS.grown hw n_cS).cell i
          have c_bX := fun i => (bX.grown hw n_bX).cell i
          simp only [Gives]
          go_simp
          exact ⟨Below.refl _ _, rfl⟩
        refine And.intro (fun _ w hw hd => ?_) ?_
        · have d1 := hd 1 (by decide) rfl
          change vs 1 = _ at d1
          refine ite_yes rfl ?_
          simp only [Gives]
          go_simp
          exact ⟨Below.refl _ _, rfl⟩
        refine And.intro (fun _ w hw hd => ?_) ?_
        · have d2 := hd 2 (by decide) rfl
          change vs 2 = _ at d2
          refine ite_yes rfl ?_
          simp only [Gives]
          go_simp
          exact ⟨Below.refl _ _, rfl⟩
        refine And.intro (fun _ w hw hd => ?_) ?_
        · have d3 := hd 3 (by decide) rfl
          change vs 3 = _ at d3
          refine ite_yes rfl ?_
          have c_e1 := fun i => (e1.grown hw n_e1).cell i
          have c_c2 := fun i => (c2.grown hw n_c2).cell i
          have c_cS := fun i => (cS.grown hw n_cS).cell i
          have c_bX := fun i => (bX.grown hw n_bX).cell i
          simp only [Gives]
          go_simp
          exact ⟨Below.refl _ _, rfl⟩
        refine And.intro (fun _ w hw hd => ?_) ?_
        · refine ite_yes rfl ?_
          simp only [Gives]
          go_simp
          exact ⟨Below.refl _ _, rfl⟩
        refine And.intro (fun _ w hw hd => ?_) ?_
        · have d4 := hd 4 (by decide) rfl
          change vs 4 = _ at d4
          refine ite_yes rfl ?_
          simp only [Gives]
          go_simp
          exact ⟨Below.refl _ _, rfl⟩
        refine And.intro (fun _ w hw hd => ?_) ?_
        · have d6 := hd 6 (by decide) rfl
          change vs 6 = _ at d6
          refine ite_yes rfl ?_
          simp only [Gives]
          go_simp
          exact ⟨Below.refl _ _, rfl⟩
        refine And.intro (fun _ w hw hd => ?_) ?_
        · have d7 := hd 7 (by decide) rfl
          change vs 7 = _ at d7
          have d5 := hd 5 (by decide) rfl
          change vs 5 = _ at d5
          refine ite_yes rfl ?_
          simp only [Gives]
          go_simp
          exact ⟨Below.refl _ _, rfl⟩
        refine And.intro (fun _ w hw hd => ?_) ?_
        · have d8 := hd 8 (by decide) rfl
          change vs 8 = _ at d8
          refine ite_yes rfl ?_
          simp only [Gives]
          go_simp
          exact ⟨Below.refl _ _, rfl⟩
        refine And.intro (fun _ w hw hd => ?_) ?_
        · have d9 := hd 9 (by decide) rfl
          change vs 9 = _ at d9
          refine ite_yes rfl ?_
          have c_e1 := fun i => (e1.grown hw n_e1).cell i
          have c_c2 := fun i => (c2.grown hw n_c2).cell i
          have c_cS := fun i => (cS.grown hw n_cS).cell i
          have c_bX := fun i => (bX.grown hw n_bX).cell i
          have q3 : w.cell? ⟨gl, 2 + k * 4 + 3, none⟩ = some (iv (en : Nat)) := HEn.out ▸ lines_err (cL.grown hw nL) hk6
          simp only [Gives]
          go_simp
          exact ⟨Below.refl _ _, rfl⟩
        refine And.intro (fun _ w hw hd => ?_) ?_
        · refine ite_yes rfl ?_
          have c_e1 := fun i => (e1.grown hw n_e1).cell i
          have c_c2 := fun i => (c2.grown hw n_c2).cell i
          have c_cS := fun i => (cS.grown hw n_cS).cell i
          have c_bX := fun i => (bX.grown hw n_bX).cell i
          simp only [Gives]
          go_simp
          exact ⟨Below.refl _ _, rfl⟩
        refine And.intro (fun _ w hw hd => ?_) ?_
        · refine ite_yes rfl ?_
          have c_e1 := fun i => (e1.grown hw n_e1).cell i
          have c_c2 := fun i => (c2.grown hw n_c2).cell i
          have c_cS := fun i => (cS.grown hw n_cS).cell i
          have c_bX := fun i => (bX.grown hw n_bX).cell i
          simp only [Gives]
          go_simp
          exact ⟨Below.refl _ _, rfl⟩
        refine And.intro (fun h => absurd rfl h) ?_
        refine And.intro (fun _ w hw hd => ?_) ?_
        · have d10 := hd 10 (by decide) rfl
          change vs 10 = _ at d10
          have d13 := hd 13 (by decide) rfl
          change vs 13 = _ at d13
          refine ite_yes rfl ?_
          simp only [Gives]
          go_simp
          exact ⟨Below.refl _ _, rfl⟩
        refine And.intro (fun _ w hw hd => ?_) ?_
        · have d14 := hd 14 (by decide) rfl
          change vs 14 = _ at d14
          refine ite_yes rfl ?_
          simp only [Gives]
          go_simp
          exact ⟨(Below.refl _ _).alloc (Nat.le_refl _) _, ⟨_, rfl, Box.new rfl, fun e => (by have := hrow _ e.symm; have := hw.size; omega)⟩⟩
        refine And.intro (fun _ w hw hd => ?_) ?_
        · have d0 := hd 0 (by decide) rfl
          change vs 0 = _ at d0
          obtain ⟨n15, d15, N15, E15⟩ := hd 15 (by decide) rfl
          refine ite_yes rfl ?_
          simp only [Gives]
          go_simp
          refine (least_any E _ [(en : Int) + (V : Int)] w (ints_one N15)).mono ?_
          rintro e w1 ⟨rfl, hb⟩
          exact ⟨_, rfl, hb, rfl⟩
        exact trivial
      case hp =>
        intro vs o ho w hw hd
        obtain rfl := Option.some.inj ho
        have d11 := hd 11 (by decide) rfl
        change vs 11 = _ at d11
        have d12 := hd 12 (by decide) rfl
        change vs 12 = _ at d12
        refine ⟨rfl, ?_⟩
        simp only [Gives]
        go_simp
        refine (ih a c (m ++ ex) w hlt ha hc (HSr.out.kept hw) HGd.out).mono ?_
        rintro e w1 ⟨v, rfl, hfw⟩
        exact ⟨_, rfl, hfw, hfw.1.trans (by rw [HV.out])⟩
      intro vs wt w1 wz hwt hF hwz hd
      have d0 := hd 0 (by decide)
      change vs 0 = _ at d0
      have d1 := hd 1 (by decide)
      change vs 1 = _ at d1
      have d2 := hd 2 (by decide)
      change vs 2 = _ at d2
      have d3 := hd 3 (by decide)
      change vs 3 = _ at d3
      have d4 := hd 4 (by decide)
      change vs 4 = _ at d4
      have d5 := hd 5 (by decide)
      change vs 5 = _ at d5
      have d6 := hd 6 (by decide)
      change vs 6 = _ at d6
      have d7 := hd 7 (by decide)
      change vs 7 = _ at d7
      have d8 := hd 8 (by decide)
      change vs 8 = _ at d8
      have d9 := hd 9 (by decide)
      change vs 9 = _ at d9
      have d10 := hd 10 (by decide)
      change vs 10 = _ at d10
      have d11 := hd 11 (by decide)
      change vs 11 = _ at d11
      have d12 := hd 12 (by decide)
      change vs 12 = _ at d12
      have d13 := hd 13 (by decide)
      change vs 13 = _ at d13
      have d14 := hd 14 (by decide)
      change vs 14 = _ at d14
      have d16 := hd 16 (by decide)
      change vs 16 = _ at d16
      simp only [d0, d1, d2, d3, d4, d5, d6, d7, d8, d9, d10, d11, d12, d13, d14, d16, List.drop_succ_cons, List.drop_zero]
      clear hd d0 d1 d2 d3 d4 d5 d6 d7 d8 d9 d10 d11 d12 d13 d14 d16
      obtain ⟨_, ex2, g3, m2, gr2⟩ := hF
      have E4 := ((e1.kept hwt).grown gr2 n_e1).kept hwz
      have cE := fun i => E4.cell i
      have fE := fun i => E4.free i
      have lE := E4.lt
      have gW : W.grownBy wz (some gm) := ((grown_of_below hwt).but _).trans (gr2.trans ((grown_of_below hwz).but _))
      have go : ∀ {g t : Nat} {cs : Array Value} (u : Value), Box W g t cs → g ≠ gm → g ≠ q → Box (wz.setCell ⟨q, 0, none⟩ u) g t cs := fun u h n1 n2 => (h.grown gW (fun e => n1 (Option.some.inj e))).far (p := ⟨q, 0, none⟩) n2 u
      have hsW := gW.size
      simp only [HLe.out]
      clear hwt
      go_wp2_with fail
      have gS := grownBy_set wz q 0 (iv ((min E (en + V) : Nat) : Int))
      refine ⟨(KeepsFrom.of_grownBy gW (fun x e => by cases e; omega)).trans ((KeepsOthers.setCell _ _ _).from _), ⟨Nat.le_trans gW.size gS.size, fun x hx h1 h2 => (Below.heap_setCell wz ⟨q, 0, none⟩ _ x h2).trans (gW.block x (by omega) (fun e => h1 (Option.some.inj e)))⟩, ?_⟩
      show FewI w gs gl gm q W0.heap.size i j s r m (foldE s.data.toList r.data.toList (pre ++ [⟨(k, a, c), hk6, hq⟩])) _
      rw [HE1.out]
      refine ⟨Box.put1 E4, ⟨ex ++ ex2, ?_, HGx.out.append (g3.mono hfar)⟩, go _ c2 (by omega) (by omega), go _ c3 (by omega) (by omega), go _ cS mS (by omega), go _ cL mL (by omega), grown_top (HGr.out.trans gW) gS (fun r e => by cases e; omega), Nat.le_trans tp (Nat.le_trans hsW gS.size)⟩
      rw [← List.append_assoc]
      exact (m2.kept hwz).far (p := ⟨q, 0, none⟩) (by simp only; omega) _
    case done =>
      rintro D xs W hD hxs hI hK
      have hls := Lib.size_eq s
      have hlr := Lib.size_eq r
      have hE := foldE_end hxs (by simp only; omega) (by simp only; omega) HE.out
      rw [hE] at hI
      obtain ⟨V, hV⟩ : ∃ V, fewI s.data.toList r.data.toList (i, j) = V := ⟨_, rfl⟩
      rw [hV] at hI
      have HV := Lib.hid hV
      obtain ⟨e1, ⟨ex, m1, gd⟩, c2, c3, cS, cL, gr, tp⟩ := hI
      have hM := Lib.hid m1
      have HGx := Lib.hid gd
      have HGr := Lib.hid gr
      clear hE hV hls hlr hxs m1 gd gr
      gi_wp2_with fail
      apply wpIn_region_by open_wide 6 [(Fact.eq _), (Fact.eq _), (Fact.eq _), (Fact.eq _), (Fact.eq _), (Fact.eq _)]
      case hm => kernel_rfl
      case hB => kernel_rfl
      case hpl => kernel_rfl
      case hA => (intro vs; simp only [List.take_succ_cons, List.take_zero, putAll, if_true, Act.put, List.setIfInBounds_toArray, List.set_cons_zero, List.set_cons_succ]; exact rfl)
      case hstep =>
        intro vs
        refine And.intro (fun w hw hd => ?_) ?_
        · refine ite_yes rfl ?_
          have c_e1 := fun i => (e1.kept hw).cell i
          have c_c2 := fun i => (c2.kept hw).cell i
          have c_c3 := fun i => (c3.kept hw).cell i
          have c_cS := fun i => (cS.kept hw).cell i
          simp only [Gives]
          go_simp
          exact ⟨Below.refl _ _, rfl, fun h => by cases h⟩
        refine And.intro (fun w hw hd => ?_) ?_
        · have d0 := hd 0 (by decide) rfl
          change vs 0 = _ at d0
          refine ite_yes rfl ?_
          simp only [Gives]
          go_simp
          exact ⟨Below.refl _ _, rfl, fun h => by cases h⟩
        refine And.intro (fun w hw hd => ?_) ?_
        · have d1 := hd 1 (by decide) rfl
          change vs 1 = _ at d1
          refine ite_yes rfl ?_
          simp only [Gives]
          go_simp
          exact ⟨Below.refl _ _, rfl, fun h => by cases h⟩
        refine And.intro (fun w hw hd => ?_) ?_
        · have d2 := hd 2 (by decide) rfl
          change vs 2 = _ at d2
          refine ite_yes rfl ?_
          have c_e1 := fun i => (e1.kept hw).cell i
          have c_c2 := fun i => (c2.kept hw).cell i
          have c_c3 := fun i => (c3.kept hw).cell i
          have c_cS := fun i => (cS.kept hw).cell i
          simp only [Gives]
          go_simp
          exact ⟨Below.refl _ _, rfl, fun h => by cases h⟩
        refine And.intro (fun w hw hd => ?_) ?_
        · refine ite_yes rfl ?_
          have c_e1 := fun i => (e1.kept hw).cell i
          have c_c2 := fun i => (c2.kept hw).cell i
          have c_c3 := fun i => (c3.kept hw).cell i
          have c_cS := fun i => (cS.kept hw).cell i
          simp only [Gives]
          go_simp
          exact ⟨Below.refl _ _, rfl, fun h => by cases h⟩
        refine And.intro (fun w hw hd => ?_) ?_
        · refine ite_yes rfl ?_
          have c_e1 := fun i => (e1.kept hw).cell i
          have c_c2 := fun i => (c2.kept hw).cell i
          have c_c3 := fun i => (c3.kept hw).cell i
          have c_cS := fun i => (cS.kept hw).cell i
          simp only [Gives]
          go_simp
          exact ⟨Below.refl _ _, rfl, fun h => by cases h⟩
        exact trivial
      intro vs wt hw hd hne hlo
      have d0 := hd 0 (by decide)
      change vs 0 = _ at d0
      have d1 := hd 1 (by decide)
      change vs 1 = _ at d1
      have d2 := hd 2 (by decide)
      change vs 2 = _ at d2
      have d3 := hd 3 (by decide)
      change vs 3 = _ at d3
      have d4 := hd 4 (by decide)
      change vs 4 = _ at d4
      have d5 := hd 5 (by decide)
      change vs 5 = _ at d5
      simp only [d0, d1, d2, d3, d4, d5, List.drop_succ_cons, List.drop_zero]
      have e1 := e1.kept hw
      have c2 := c2.kept hw
      have c3 := c3.kept hw
      have cS := cS.kept hw
      have c_e1 := fun i => e1.cell i
      have f_e1 := fun i => e1.free i
      have c_c2 := fun i => c2.cell i
      have f_c2 := fun i => c2.free i
      have c_c3 := fun i => c3.cell i
      have f_c3 := fun i => c3.free i
      have c_cS := fun i => cS.cell i
      have f_cS := fun i => cS.free i
      clear hd hne hlo d0 d1 d2 d3 d4 d5
      have hM1 := hM.out.kept hw
      have hnone : look (m ++ ex) (i : Int) (j : Int) = none := by rw [look_append _ _ _ _ HLk.out]; exact good_far HGx.out (by omega)
      obtain ⟨w5, hu, m5, g5⟩ := run_update und122 pair_key hM1 i j (iv (V : Nat)) hnone
      have E5 := e1.grown g5 (fun e => by have := Option.some.inj e; omega)
      have cE := fun i => E5.cell i
      have hKt : wt.heap[D]? = some (.deferred (some [])) := (hw.block D (Array.getElem?_eq_some_iff.1 hK).1).trans hK
      have hK5 : w5.heap[D]? = some (.deferred (some [])) := (g5.block D (Array.getElem?_eq_some_iff.1 hKt).1 (fun e => by have := Option.some.inj e; omega)).trans hKt
      have gA : w.grownBy w5 (some gm) := HGr.out.trans (((grown_of_below hw).but _).trans g5)
      clear hM1 e1 E5
      go_wp2_with fail
      gi_wp2_with fail
      refine ⟨by simp, .inl ⟨_, _, rfl, run_takeDeferred hK5, ?_⟩⟩
      refine ⟨_, results_tmp rfl _ _ _, _, rfl, by rw [HV.out]; rfl, ex ++ [(((i : Int), (j : Int)), iv (V : Nat))], ?_, ?_, grown_top gA (grownBy_putObj' _ D _) (fun r e => by cases e; omega)⟩
      · refine (HGx.out.mono (by simp only; omega)).append fun x hx => ?_
        obtain rfl : x = (((i : Int), (j : Int)), iv (V : Nat)) := by simpa using hx
        exact ⟨i, j, rfl, Nat.le_refl _, by rw [← Lib.size_eq]; exact hi, by rw [← Lib.size_eq]; exact hj, by rw [HV.out]⟩
      · rw [← List.append_assoc]
        obtain ⟨es, clock, a1, a2⟩ := m5
        exact ⟨es, clock, (World.putObj_heap_other (by omega)).trans a1, a2⟩
    case stop =>
      rintro D c pre W hD hSp h
      exact h.elim
  · have HLk := Lib.hid hlk
    clear hlk
    apply wpIn_region_by open_wide 11 [(Fact.eq _), (Fact.eq _), (Fact.eq _), (Fact.eq _), (Fact.eq _), (Fact.eq (.tuple #[iv (fewI s.data.toList r.data.toList (i, j)), .bool true])), (Fact.eq _), (Fact.eq _), (Fact.eq _), (Fact.eq _), (Fact.eq _)]
    case hm => kernel_rfl
    case hB => kernel_rfl
    case hpl => kernel_rfl
    case hA => (intro vs; simp only [List.take_succ_cons, List.take_zero, putAll, if_true, Act.put, List.setIfInBounds_toArray, List.set_cons_zero, List.set_cons_succ]; exact rfl)
    case hstep =>
      intro vs
      refine And.intro (fun w hw hd => ?_) ?_
      · refine ite_yes rfl ?_
        have c_b2 := fun i => (b2.kept hw).cell i
        have c_b3 := fun i => (b3.kept hw).cell i
        have c_bS := fun i => (bS.kept hw).cell i
        simp only [Gives]
        go_simp
        exact ⟨Below.refl _ _, rfl, fun h => by cases h⟩
      refine And.intro (fun w hw hd => ?_) ?_
      · have d0 := hd 0 (by decide) rfl
        change vs 0 = _ at d0
        refine ite_yes rfl ?_
        simp only [Gives]
        go_simp
        exact ⟨Below.refl _ _, rfl, fun h => by cases h⟩
      refine And.intro (fun w hw hd => ?_) ?_
      · have d1 := hd 1 (by decide) rfl
        change vs 1 = _ at d1
        refine ite_yes rfl ?_
        simp only [Gives]
        go_simp
        exact ⟨Below.refl _ _, rfl, fun h => by cases h⟩
      refine And.intro (fun w hw hd => ?_) ?_
      · have d2 := hd 2 (by decide) rfl
        change vs 2 = _ at d2
        refine ite_yes rfl ?_
        have c_b2 := fun i => (b2.kept hw).cell i
        have c_b3 := fun i => (b3.kept hw).cell i
        have c_bS := fun i => (bS.kept hw).cell i
        simp only [Gives]
        go_simp
        exact ⟨Below.refl _ _, rfl, fun h => by cases h⟩
      refine And.intro (fun w hw hd => ?_) ?_
      · refine ite_yes rfl ?_
        have c_b2 := fun i => (b2.kept hw).cell i
        have c_b3 := fun i => (b3.kept hw).cell i
        have c_bS := fun i => (bS.kept hw).cell i
        simp only [Gives]
        go_simp
        exact ⟨Below.refl _ _, rfl, fun h => by cases h⟩
      refine And.intro (fun w hw hd => ?_) ?_
      · have d3 := hd 3 (by decide) rfl
        change vs 3 = _ at d3
        have d4 := hd 4 (by decide) rfl
        change vs 4 = _ at d4
        refine ite_yes rfl ?_
        simp only [Gives]
        have hl := run_lookup und122 pair_key zero3 (HM.out.kept hw) i j true
        rw [HLk.out] at hl
        go_simp
        exact ⟨Below.refl _ _, rfl, fun h => by cases h⟩
      refine And.intro (fun w hw hd => ?_) ?_
      · have d5 := hd 5 (by decide) rfl
        change vs 5 = _ at d5
        refine ite_yes rfl ?_
        simp only [Gives]
        go_simp
        exact ⟨Below.refl _ _, rfl, fun h => by cases h⟩
      refine And.intro (fun w hw hd => ?_) ?_
      · have d6 := hd 6 (by decide) rfl
        change vs 6 = _ at d6
        refine ite_yes rfl ?_
        simp only [Gives]
        go_simp
        exact ⟨Below.refl _ _, rfl, fun h => by cases h⟩
      refine And.intro (fun w hw hd => ?_) ?_
      · have d6 := hd 6 (by decide) rfl
        change vs 6 = _ at d6
        refine ite_yes rfl ?_
        simp only [Gives]
        go_simp
        exact ⟨Below.refl _ _, rfl, fun h => by cases h⟩
      refine And.intro (fun w hw hd => ?_) ?_
      · have d7 := hd 7 (by decide) rfl
        change vs 7 = _ at d7
        refine ite_yes rfl ?_
        simp only [Gives]
        go_simp
        exact ⟨Below.refl _ _, rfl, fun h => by cases h⟩
      refine And.intro (fun w hw hd => ?_) ?_
      · have d8 := hd 8 (by decide) rfl
        change vs 8 = _ at d8
        refine ite_yes rfl ?_
        simp only [Gives]
        go_simp
        exact ⟨Below.refl _ _, rfl, fun h => by cases h⟩
      exact trivial
    intro vs wt hw hd hne hlo
    have d0 := hd 0 (by decide)
    change vs 0 = _ at d0
    have d1 := hd 1 (by decide)
    change vs 1 = _ at d1
    have d2 := hd 2 (by decide)
    change vs 2 = _ at d2
    have d3 := hd 3 (by decide)
    change vs 3 = _ at d3
    have d4 := hd 4 (by decide)
    change vs 4 = _ at d4
    have d5 := hd 5 (by decide)
    change vs 5 = _ at d5
    have d6 := hd 6 (by decide)
    change vs 6 = _ at d6
    have d7 := hd 7 (by decide)
    change vs 7 = _ at d7
    have d8 := hd 8 (by decide)
    change vs 8 = _ at d8
    have d9 := hd 9 (by decide)
    change vs 9 = _ at d9
    have d10 := hd 10 (by decide)
    change vs 10 = _ at d10
    simp only [d0, d1, d2, d3, d4, d6, d7, d8, d9, d10, List.drop_succ_cons, List.drop_nil]
    have b2 := b2.kept hw
    have b3 := b3.kept hw
    have bS := bS.kept hw
    have c_b2 := fun i => b2.cell i
    have f_b2 := fun i => b2.free i
    have c_b3 := fun i => b3.cell i
    have f_b3 := fun i => b3.free i
    have c_bS := fun i => bS.cell i
    have f_bS := fun i => bS.free i
    clear hd hne hlo d0 d1 d2 d3 d4 d6 d7 d8 d9 d10
    simp only [Nat.zero_add, Nat.reduceAdd, d5]
    go_wp2_with fail
    gi_wp2_with fail
    refine ⟨_, results_tmp rfl _ _ _, _, rfl, rfl, [], by simp [Good], ?_, ?_⟩
    · rw [List.append_nil]; exact HM.out.kept hw
    · exact (grown_of_below (up_later hB hw)).but _
theorem fewest_at (gs gl gm : Nat) (s r : ByteArray) (hs9 : s.size ≤ 40) (hr9 : r.size ≤ 40) (f : Nat) : ∀ (i j : Nat) (m : List ((Int × Int) × Value)) (w : World), leftN s.data.toList r.data.toList (i, j) ≤ f → i ≤ s.size → j ≤ r.size → SrAt w gs gl gm s r m → Good s.data.toList r.data.toList 0 m →
    Calls Tryz.prog 58 #[.pointer (some ⟨gs, 0, none⟩), .agg #[iv i, iv j]] w fun e w' => ∃ v, e = .returned v ∧ Few gm s.data.toList r.data.toList m (i, j) v w w' := by
  induction f using Nat.strongRecOn with
  | ind f ih =>
    intro i j m w hf hi hj hS hG
    exact callsIn_wide.1 (fewest_in gs gl gm s r hs9 hr9 f (fun a c m' w' hlt ha hc hS' hG' => ih _ hlt a c m' w' (Nat.le_refl _) ha hc hS' hG') i j m w hf hi hj hS hG)
theorem fewest_any (gs gl gm i j : Nat) (s r : ByteArray) (m : List ((Int × Int) × Value)) (w : World) (hs9 : s.size ≤ 40) (hr9 : r.size ≤ 40) (hi : i ≤ s.size) (hj : j ≤ r.size) (hS : SrAt w gs gl gm s r m) (hG : Good s.data.toList r.data.toList 0 m) :
    Calls Tryz.prog 58 #[.pointer (some ⟨gs, 0, none⟩), .agg #[iv i, iv j]] w fun e w' => ∃ v, e = .returned v ∧ Few gm s.data.toList r.data.toList m (i, j) v w w' :=
  fewest_at gs gl gm s r hs9 hr9 _ i j m w (Nat.le_refl _) hi hj hS hG
end Go.Proofs.YtonekgefegfapaaGreat
