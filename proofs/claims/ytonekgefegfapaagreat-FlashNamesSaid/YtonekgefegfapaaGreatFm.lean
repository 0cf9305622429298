/-
  WALK of '(search).first' and of Explain. Conditions: the end can be reached; the map knows right numbers alone.
-/
import Derived.Test.YtonekgefegfapaaGreatFk
import Derived.Test.YtonekgefegfapaaGreatFn
namespace Go.Proofs.YtonekgefegfapaaGreat
open Go.RowKit Go.Shelf
attribute [local go_sem] Oper.semAt_some

theorem firstF_len (S R : By) : ∀ (f : Nat) (p : Nat × Nat), (firstF S R f p).length ≤ f
  | 0, _ => Nat.le_refl _
  | f + 1, p => by
    rw [firstF_succ]
    split
    · simp
    · split
      · have := firstF_len S R f (by assumption : Nat × Nat × Nat).2
        simp only [List.length_cons]
        omega
      · simp
theorem int_info : (Tryz.prog.info? 3).map (fun i => (i.zero, i.size, i.bytes)) = some (some (.int .i64 0), 1, 8) := by kernel_rfl
/-- What 'first' knows at a place. -/
structure Fst (w : World) (gs gl gm g4 i j : Nat) (s r : ByteArray) (pre : List Nat) (W : World) : Prop where
  b1 : Box W w.heap.size 84 #[.pointer (some ⟨gs, 0, none⟩)]
  b3 : ∃ v, Box W (w.heap.size + 1) 25 #[v] ∧ W.ownsRow w.heap.size 3 1 v pre.length (pre.map fun k : Nat => iv k)
  b4 : Box W g4 89 #[iv i, iv j]
  sg : ∃ m, SrAt W gs gl gm s r m ∧ Good s.data.toList r.data.toList 0 m
  gr : w.grownBy W (some gm)
theorem own_no_row {W : World} {base n : Nat} {v : Value} {xs : List Value} {row : Option Nat} (h : W.ownsRow base 3 1 v n xs) (hr : ∀ r, row = some r → ∃ o : Obj, W.heap[r]? = some o ∧ o.isCells = false) : v.ownBlock = none ∨ v.ownBlock ≠ row := by
  rcases h.2 with ⟨rfl, _⟩ | ⟨g, cap, cur, rfl, _, hg, _⟩
  · exact .inl rfl
  · refine .inr fun e => ?_
    obtain ⟨o, ho, hc⟩ := hr g e.symm
    rw [hg] at ho
    cases ho
    cases hc
section
variable {w W W' : World} {gs gl gm g4 i j : Nat} {s r : ByteArray} {pre : List Nat}
theorem Fst.off {row : Option Nat} {Bq : Nat} (h : Fst w gs gl gm g4 i j s r pre W) (hg : W.grownBy W' row) (hwB : w.heap.size ≤ Bq) (hm : gm < w.heap.size) (hr : ∀ r, row = some r → Bq ≤ r ∧ ∃ o : Obj, W.heap[r]? = some o ∧ o.isCells = false) : Fst w gs gl gm g4 i j s r pre W' := by
  obtain ⟨h1, ⟨v, h2, h3⟩, h4, ⟨m, ⟨k1, k2, k3⟩, k4⟩, h5⟩ := h
  refine ⟨h1.grown hg (box_off h1 hr), ⟨v, h2.grown hg (box_off h2 hr), h3.kept hg (own_no_row h3 fun r e => (hr r e).2)⟩, h4.grown hg (box_off h4 hr), ⟨m, ⟨k1.grown hg (box_off k1 hr), k2.grown hg (box_off k2 hr), ?_⟩, k4⟩, grown_top h5 hg (fun r e => Nat.le_trans hwB (hr r e).1)⟩
  obtain ⟨es, clock, a1, a2⟩ := k3
  exact ⟨es, clock, (hg.block gm (Array.getElem?_eq_some_iff.1 a1).1 (fun e => by have := (hr gm e.symm).1; omega)).trans a1, a2⟩
theorem Fst.kept (h : Fst w gs gl gm g4 i j s r pre W) (hm : gm < w.heap.size) (hb : Below W.heap.size W W') : Fst w gs gl gm g4 i j s r pre W' := h.off (Bq := w.heap.size) (grown_of_below hb) (Nat.le_refl _) hm (by simp)
theorem MapAt.row {m : List ((Int × Int) × Value)} (h : MapAt W gm m) : ∀ r, (some gm : Option Nat) = some r → ∃ o : Obj, W.heap[r]? = some o ∧ o.isCells = false := fun r e => by
  obtain rfl := Option.some.inj e
  obtain ⟨es, clock, a1, _⟩ := h
  exact ⟨_, a1, rfl⟩
theorem Fst.grow {m' : List ((Int × Int) × Value)} (h : Fst w gs gl gm g4 i j s r pre W) (hg : W.grownBy W' (some gm)) (hm : MapAt W' gm m') (hG : Good s.data.toList r.data.toList 0 m') : Fst w gs gl gm g4 i j s r pre W' := by
  obtain ⟨h1, ⟨v, h2, h3⟩, h4, ⟨m, hS, _⟩, h5⟩ := h
  have ne : ∀ {g t : Nat} {cs : Array Value}, Box W g t cs → some g ≠ some gm := fun hb e => hb.ne_map hS.map (Option.some.inj e)
  exact ⟨h1.grown hg (ne h1), ⟨v, h2.grown hg (ne h2), h3.kept hg (own_no_row h3 hS.map.row)⟩, h4.grown hg (ne h4), ⟨m', hS.grown hg hm, hG⟩, h5.trans hg⟩
end
theorem Fst.turn {w W : World} {gs gl gm g4 i j : Nat} {s r : ByteArray} {pre : List Nat} (h : Fst w gs gl gm g4 i j s r pre W) (hm : gm < w.heap.size) : Fst w gs gl gm W.heap.size i j s r pre (W.alloc (.cells #[iv i, iv j] 89)) := by
  obtain ⟨h1, h2, _, h4, h5⟩ := h.kept hm (up_alloc up0 (.cells #[iv i, iv j] 89))
  exact ⟨h1, h2, Box.new rfl, h4, h5⟩
/-- A call of fewest on the way. -/
theorem fewest_fst {w W : World} {gs gl gm g4 i j Bx a c : Nat} {s r : ByteArray} {pre : List Nat} {cs : Array Value} (hs9 : s.size ≤ 40) (hr9 : r.size ≤ 40) (ha : a ≤ s.size) (hc : c ≤ r.size) {V : Nat} (hV : fewI s.data.toList r.data.toList (a, c) = V)
    (h : Fst w gs gl gm g4 i j s r pre W ∧ Box W Bx 89 cs) :
    Calls Tryz.prog 58 #[.pointer (some ⟨gs, 0, none⟩), .agg #[iv a, iv c]] W fun e w1 => ∃ v, e = .returned v ∧ W.grownBy w1 (some gm) ∧ (Fst w gs gl gm g4 i j s r pre w1 ∧ Box w1 Bx 89 cs) ∧ v = iv (V : Nat) := by
  obtain ⟨hF, hX⟩ := h
  obtain ⟨m, hS, hG⟩ := hF.sg
  refine (fewest_any gs gl gm a c s r m W hs9 hr9 ha hc hS hG).mono ?_
  rintro e w1 ⟨v, rfl, rfl, ex, hex, hm, hg⟩
  exact ⟨_, rfl, hg, ⟨hF.grow hg hm (hG.append (hex.mono (Nat.zero_le _))), hX.grown hg (fun e => hX.ne_map hS.map (Option.some.inj e))⟩, by rw [hV]⟩
/-- The frame of 'first' at its loop's head. -/
def FrA (gs g1 g3 g4 : Nat) (u : Nat → Value) (Ds : List Nat) : Act := { tmps := #[.pointer (some ⟨gs, 0, none⟩), .pointer (some ⟨g1, 0, none⟩), .slice none 0 0, .pointer (some ⟨g3, 0, none⟩), .pointer (some ⟨g4, 0, none⟩), undef, undef, .agg #[iv 0, iv 0], u 8, u 9, u 10, u 11, u 12, u 13, u 14, u 15, u 16, u 17, u 18, u 19, u 20,
  undef, undef, undef, undef, undef, undef, undef, undef, undef, undef, undef, undef, undef, undef, undef, undef, undef, undef, undef, undef, undef, undef, undef, undef, undef, u 46, undef], defers := marksOf Ds }
/-- How far the place lies from the end. -/
def msr (S R : By) (a : Act) (W : World) : Nat := match a.tmps.getD 4 undef with
  | .pointer (some p) => match W.cell? ⟨p.block, 0, none⟩, W.cell? ⟨p.block, 1, none⟩ with
    | some (.int _ x), some (.int _ y) => leftN S R (x.toNat, y.toNat)
    | _, _ => 0
  | _ => 0
theorem msr_at {S R : By} {gs g1 g3 g4 i j : Nat} {u : Nat → Value} {Ds : List Nat} {W : World} (h : Box W g4 89 #[iv i, iv j]) : msr S R (FrA gs g1 g3 g4 u Ds) W = leftN S R (i, j) := by
  have h0 := h.cell 0
  have h1 := h.cell 1
  simp at h0 h1
  unfold msr FrA
  simp [h0, h1]
/-- The marks lie as they were laid. -/
def Marks (B : Nat) (Ds : List Nat) (W : World) : Prop := ∀ D ∈ Ds, B ≤ D ∧ W.heap[D]? = some (.deferred (some []))
theorem Marks.kept {B : Nat} {Ds : List Nat} {W W' : World} (h : Marks B Ds W) (hb : Below W.heap.size W W') : Marks B Ds W' := fun D hD => ⟨(h D hD).1, (hb.block D (Array.getElem?_eq_some_iff.1 (h D hD).2).1).trans (h D hD).2⟩
theorem Marks.off {B : Nat} {Ds : List Nat} {W W' : World} {row : Option Nat} (h : Marks B Ds W) (hg : W.grownBy W' row) (hr : ∀ r, row = some r → ∀ D ∈ Ds, D ≠ r) : Marks B Ds W' := fun D hD => ⟨(h D hD).1, (hg.block D (Array.getElem?_eq_some_iff.1 (h D hD).2).1 (fun e => hr D e.symm D hD rfl)).trans (h D hD).2⟩
theorem gone_own {Ds : List Nat} {B base n : Nat} {w W : World} {v : Value} {xs : List Value} (h : w.ownsRow base 3 1 v n xs) (hg : Gone Ds w W) (hm : Marks B Ds w) : W.ownsRow base 3 1 v n xs := by
  refine ⟨h.1, ?_⟩
  rcases h.2 with hn | ⟨g, cap, cur, rfl, hb, hgg, rest⟩
  · exact .inl hn
  · refine .inr ⟨g, cap, cur, rfl, hb, (hg.2.2.2.2 g fun hD => ?_).trans hgg, rest⟩
    have := (hm g hD).2
    rw [hgg] at this
    cases this
theorem gone_grown {Ds : List Nat} {w w1 W : World} {row : Option Nat} (h : w.grownBy w1 row) (hg : Gone Ds w1 W) (hm : Marks w.heap.size Ds w1) : w.grownBy W row :=
  ⟨hg.1.trans h.os, hg.2.1.trans h.tape, hg.2.2.1.trans h.output, by rw [hg.2.2.2.1]; exact h.size, fun k hk hn => (hg.2.2.2.2 k fun hD => by have := (hm k hD).1; omega).trans (h.block k hk hn)⟩
theorem own_ge {W : World} {base n : Nat} {v : Value} {xs : List Value} (h : W.ownsRow base 3 1 v n xs) {k : Nat} (hk : k < base) : some k ≠ v.ownBlock := by
  rcases h.2 with ⟨rfl, _⟩ | ⟨g, cap, cur, rfl, hb, _⟩
  · simp [Value.ownBlock]
  · simp only [Value.ownBlock, ne_eq, Option.some.injEq]
    omega
theorem App.fst {w W W' : World} {gs gl gm g4 i j a c k : Nat} {s r : ByteArray} {pre : List Nat} {v0 : Value} {p0 : Array Value} {L : Nat → Bool} {vs : Nat → Value} (hF : Fst w gs gl gm g4 i j s r pre W)
    (hA : App (w.heap.size + 1) g4 v0 pre.length (pre.map fun k : Nat => iv k) (iv k) p0 #[iv a, iv c] w.heap.size W L vs W') (hL : ∀ d, d < 7 → L d = true) (ho : W.ownsRow w.heap.size 3 1 v0 pre.length (pre.map fun k : Nat => iv k))
    (hgs : gs < w.heap.size) (hgl : gl < w.heap.size) (hgm : gm < w.heap.size) (hg4 : w.heap.size + 2 ≤ g4) : Fst w gs gl gm g4 a c s r (pre ++ [k]) W' := by
  have h3 := hA.b3
  have h4 := hA.b4
  have hO := hA.own
  rw [if_pos (hL 5 (by decide))] at h3
  rw [if_pos (hL 6 (by decide))] at h4
  rw [if_pos (hL 3 (by decide))] at hO
  have hz := hF.gr.size
  have old : ∀ k, k < w.heap.size → W'.heap[k]? = W.heap[k]? := fun k hk => hA.block k (by omega) (by omega) (by omega) (own_ge ho hk)
  obtain ⟨m, ⟨k1, k2, es, clock, a1, a2⟩, hG⟩ := hF.sg
  refine ⟨(hA.block _ hF.b1.lt (by omega) (by omega) (box_not_own hF.b1 (by decide) ho)).trans hF.b1, ⟨vs 3, h3, ?_⟩, h4, ⟨m, ⟨(old _ hgs).trans k1, (old _ hgl).trans k2, es, clock, (old _ hgm).trans a1, a2⟩, hG⟩, ?_⟩
  · simpa using hO
  · exact ⟨hA.os.trans hF.gr.os, hA.tape.trans hF.gr.tape, hA.output.trans hF.gr.output, Nat.le_trans hz hA.size, fun q hq hn => (old q hq).trans (hF.gr.block q hq hn)⟩
theorem App.keeps {B3 g4 n base B : Nat} {v0 x u0 : Value} {xs : List Value} {p0 p1 q0 : Array Value} {W w : World} {L : Nat → Bool} {vs : Nat → Value} (h : App B3 g4 v0 n xs x p0 p1 base W L vs w) (s3 : Box W B3 25 #[u0]) (s4 : Box W g4 89 q0) (ho : W.ownsRow base 3 1 v0 n xs) : KeepsFrom B W w :=
  ⟨h.size, fun k o _ hk hc => by
    have nb : ∀ {g t : Nat} {cs : Array Value}, Box W g t cs → k ≠ g := fun hb e => by
      subst e
      rw [show W.heap[k]? = _ from hb] at hk
      cases hk
      cases hc
    refine (h.block k (Array.getElem?_eq_some_iff.1 hk).1 (nb s3) (nb s4) ?_).trans hk
    have := own_no_row (row := some k) ho fun r e => by obtain rfl := Option.some.inj e; exact ⟨o, hk, hc⟩
    rcases this with h1 | h1
    · rw [h1]; simp
    · exact fun e => h1 e.symm⟩
theorem App.marks {B3 g4 n base B : Nat} {v0 x u0 : Value} {xs : List Value} {p0 p1 q0 : Array Value} {W w : World} {L : Nat → Bool} {vs : Nat → Value} {Ds : List Nat} (h : App B3 g4 v0 n xs x p0 p1 base W L vs w) (s3 : Box W B3 25 #[u0]) (s4 : Box W g4 89 q0) (ho : W.ownsRow base 3 1 v0 n xs) (hm : Marks B Ds W) : Marks B Ds w :=
  fun D hD => ⟨(hm D hD).1, (App.keeps (B := 0) h s3 s4 ho).same D _ (Nat.zero_le _) (hm D hD).2 rfl⟩
/-- What holds at the loop's head. -/
def FInv (w : World) (gs gl gm : Nat) (s r : ByteArray) (a : Act) (W : World) : Prop := ∃ (g4 i j : Nat) (pre : List Nat) (u : Nat → Value) (Ds : List Nat), a = FrA gs w.heap.size (w.heap.size + 1) g4 u Ds ∧ Fst w gs gl gm g4 i j s r pre W ∧ i ≤ s.size ∧ j ≤ r.size ∧
  fewI s.data.toList r.data.toList (i, j) < 120 ∧ pre ++ firstI s.data.toList r.data.toList (i, j) = firstI s.data.toList r.data.toList (0, 0) ∧ Ds.Nodup ∧ Marks w.heap.size Ds W ∧ w.heap.size + 2 ≤ g4
set_option maxRecDepth 100000 in
set_option maxHeartbeats 3000000 in
theorem first_in (gs gl gm : Nat) (s r : ByteArray) (m : List ((Int × Int) × Value)) (w : World) (hs9 : s.size ≤ 40) (hr9 : r.size ≤ 40) (hS : SrAt w gs gl gm s r m) (hG : Good s.data.toList r.data.toList 0 m) (hf : fewI s.data.toList r.data.toList (0, 0) < 120) :
    CallsIn Fence.wide 9 Tryz.prog 59 #[.pointer (some ⟨gs, 0, none⟩)] w fun e w' => ∃ v, e = .returned v ∧ w'.ownsRow w.heap.size 3 1 v (firstI s.data.toList r.data.toList (0, 0)).length ((firstI s.data.toList r.data.toList (0, 0)).map fun k : Nat => iv k) ∧ w.grownBy w' (some gm) := by
  have hm9 := hS.map.lt
  have lgs := hS.srch.lt
  have lgl := hS.lines.lt
  refine callsIn_of_wp_marks Tryz.func59 rfl trivial ?_ rfl
  simp only [Tryz.ntmps59, List.size_toArray, List.length_cons, List.length_nil, Nat.reduceAdd, Nat.reduceSub, Array.replicate_succ, Array.replicate_zero, List.push_toArray, List.append_toArray, List.nil_append, List.cons_append]
  have HS := Lib.hid hS
  have HG := Lib.hid hG
  have HF := Lib.hid hf
  clear hS hG hf
  gi_wp2_with fail
  refine wpIn_loop (FInv w gs gl gm s r) (msr s.data.toList r.data.toList) ?start ?round
  case start =>
    have B1 := (Box.new (w := w) (t := 84) (cs := #[.pointer (some ⟨gs, 0, none⟩)]) rfl).alloc (.cells #[.slice none 0 0] 25)
    have hB : Below w.heap.size w (((w.alloc (.cells #[.pointer (some ⟨gs, 0, none⟩)] 84)).alloc (.cells #[.slice none 0 0] 25)).alloc (.cells #[iv 0, iv 0] 89)) := up_alloc (up_alloc (up_alloc up0 _) _) _
    refine ⟨w.heap.size + 2, 0, 0, [], fun _ => undef, [], rfl, ⟨B1.alloc _, ⟨.slice none 0 0, (Box.new (by simp)).alloc _, ⟨by simp, .inl ⟨rfl, rfl⟩⟩⟩, Box.new (by simp), ⟨m, HS.out.kept hB, HG.out⟩, (grown_of_below hB).but _⟩, Nat.zero_le _, Nat.zero_le _, HF.out, by simp, by simp, (fun D hD => by cases hD), Nat.le_refl _⟩
  case round =>
    clear HS HG HF m
    rintro _ W ⟨g4, i, j, pre, u, Ds, rfl, hF, hi, hj, hfw, hpre, hnd, hDs, hg4⟩
    have HFs := Lib.hid hF
    have HW := Lib.hid hfw
    have HP := Lib.hid hpre
    have HDs := Lib.hid hDs
    have HN := Lib.hid hnd
    obtain ⟨b1, -, b4, ⟨m, ⟨bS, bL, bM⟩, hG⟩, -⟩ := hF
    have HM := Lib.hid bM
    have HL := Lib.hid bL
    have HG := Lib.hid hG
    clear hfw hpre hnd hDs bM hG bL
    rw [msr_at b4]
    unfold FrA
    obtain ⟨L, hL⟩ : ∃ L, leftN s.data.toList r.data.toList (i, j) = L := ⟨_, rfl⟩
    have HLn := Lib.hid hL
    rw [hL]
    obtain ⟨ds, hds⟩ : ∃ ds, marksOf Ds = ds := ⟨_, rfl⟩
    have HD := Lib.hid hds
    rw [hds]
    clear hL hds
    gi_wp2_with fail
    by_cases he : i = s.size ∧ j = r.size
    · obtain ⟨rfl, rfl⟩ := he
      apply wpIn_region_by open_wide 7 [(Fact.eq _), (Fact.eq _), (Fact.eq _), (Fact.eq _), (Fact.eq _), (Fact.eq _), (Fact.eq _)]
      case hm => kernel_rfl
      case hB => kernel_rfl
      case hpl => kernel_rfl
      case hA => (intro vs; simp only [List.take_succ_cons, List.take_zero, putAll, if_true, Act.put, List.setIfInBounds_toArray, List.set_cons_zero, List.set_cons_succ]; exact rfl)
      case hstep =>
        intro vs
        refine And.intro (fun w hw hd => ?_) ?_
        · refine ite_yes rfl ?_
          have c_b1 := fun i => (b1.kept hw).cell i
          have c_b4 := fun i => (b4.kept hw).cell i
          have c_bS := fun i => (bS.kept hw).cell i
          simp only [Gives]
          go_simp
          exact ⟨Below.refl _ _, rfl, fun h => by cases h⟩
        refine And.intro (fun w hw hd => ?_) ?_
        · refine ite_yes rfl ?_
          have c_b1 := fun i => (b1.kept hw).cell i
          have c_b4 := fun i => (b4.kept hw).cell i
          have c_bS := fun i => (bS.kept hw).cell i
          simp only [Gives]
          go_simp
          exact ⟨Below.refl _ _, rfl, fun h => by cases h⟩
        refine And.intro (fun w hw hd => ?_) ?_
        · have d1 := hd 1 (by decide) rfl
          change vs 1 = _ at d1
          refine ite_yes rfl ?_
          simp only [Gives]
          go_simp
          exact ⟨Below.refl _ _, rfl, fun h => by cases h⟩
        refine And.intro (fun w hw hd => ?_) ?_
        · have d2 := hd 2 (by decide) rfl
          change vs 2 = _ at d2
          refine ite_yes rfl ?_
          simp only [Gives]
          go_simp
          exact ⟨Below.refl _ _, rfl, fun h => by cases h⟩
        refine And.intro (fun w hw hd => ?_) ?_
        · have d3 := hd 3 (by decide) rfl
          change vs 3 = _ at d3
          refine ite_yes rfl ?_
          have c_b1 := fun i => (b1.kept hw).cell i
          have c_b4 := fun i => (b4.kept hw).cell i
          have c_bS := fun i => (bS.kept hw).cell i
          simp only [Gives]
          go_simp
          exact ⟨Below.refl _ _, rfl, fun h => by cases h⟩
        refine And.intro (fun w hw hd => ?_) ?_
        · have d4 := hd 4 (by decide) rfl
          change vs 4 = _ at d4
          refine ite_yes rfl ?_
          simp only [Gives]
          go_simp
          refine (end_any gl s r w (HL.out.kept hw)).mono ?_
          rintro e w1 ⟨rfl, hb⟩
          exact ⟨_, rfl, hb, rfl, fun h => by cases h⟩
        refine And.intro (fun w hw hd => ?_) ?_
        · have d0 := hd 0 (by decide) rfl
          change vs 0 = _ at d0
          have d5 := hd 5 (by decide) rfl
          change vs 5 = _ at d5
          refine ite_yes rfl ?_
          simp only [Gives]
          go_simp
          exact ⟨Below.refl _ _, rfl, fun h => by cases h⟩
        exact trivial
      intro vs wt hw hd hne hlo
      have d0 := hd 0 (by decide)
      change vs 0 = _ at d0
      have d1 := hd 1 (by decide)
      change vs 1 = _ at d1
      have d2 := hd 2 (by decide)
      change vs 2 = _ at d2
      have d3 := hd 3 (by decide)
      change vs 3 = _ at d3
      have d4 := hd 4 (by decide)
      change vs 4 = _ at d4
      have d5 := hd 5 (by decide)
      change vs 5 = _ at d5
      have d6 := hd 6 (by decide)
      change vs 6 = _ at d6
      simp only [d0, d1, d2, d3, d4, d5, d6, List.drop_succ_cons, List.drop_nil]
      have b1 := b1.kept hw
      have b4 := b4.kept hw
      have bS := bS.kept hw
      have c_b1 := fun i => b1.cell i
      have f_b1 := fun i => b1.free i
      have c_b4 := fun i => b4.cell i
      have f_b4 := fun i => b4.free i
      have c_bS := fun i => bS.cell i
      have f_bS := fun i => bS.free i
      clear hd hne hlo d0 d1 d2 d3 d4 d5 d6
      obtain ⟨v, b3, ho⟩ := (HFs.out.kept hm9 hw).b3
      obtain ⟨A3, m3, p3, rfl⟩ := own_form ho
      have HO := Lib.hid ho
      have c3 := fun i => b3.cell i
      clear ho
      go_wp2_with fail
      gi_wp2_with fail
      show LeavesInM _ _ _ _ _ _ ds _ _
      rw [← HD.out]
      refine leaves_marks Ds wt HN.out (fun D hD => ((HDs.out.kept hw) D hD).2) fun Wf hWf => ?_
      refine ⟨_, results_tmp rfl _ _ _, _, rfl, ?_, gone_grown ((HFs.out.kept hm9 hw).gr) hWf (HDs.out.kept hw)⟩
      have hl := HP.out
      rw [Lib.size_eq, Lib.size_eq, firstI_end, List.append_nil] at hl
      rw [← hl]
      exact gone_own HO.out hWf (HDs.out.kept hw)
    have HE2 : Hid ((i : Int) = (s.size : Int) → ¬ (j : Int) = (r.size : Int)) := Lib.hid fun h1 h2 => he ⟨by omega, by omega⟩
    have HE := Lib.hid (show (i, j) ≠ (s.data.toList.length, r.data.toList.length) from fun h => by
      injection h with h1 h2
      exact he ⟨by rw [Lib.size_eq]; exact h1, by rw [Lib.size_eq]; exact h2⟩)
    clear he
    apply wpIn_region_by open_wide 7 [(Fact.eq _), (Fact.eq _), (Fact.eq _), (Fact.eq _), (Fact.eq _), (Fact.eq _), (Fact.eq (.bool true))]
    case hm => kernel_rfl
    case hB => kernel_rfl
    case hpl => kernel_rfl
    case hA => (intro vs; simp only [List.take_succ_cons, List.take_zero, putAll, if_true, Act.put, List.setIfInBounds_toArray, List.set_cons_zero, List.set_cons_succ]; exact rfl)
    case hstep =>
      intro vs
      refine And.intro (fun w hw hd => ?_) ?_
      · refine ite_yes rfl ?_
        have c_b1 := fun i => (b1.kept hw).cell i
        have c_b4 := fun i => (b4.kept hw).cell i
        have c_bS := fun i => (bS.kept hw).cell i
        simp only [Gives]
        go_simp
        exact ⟨Below.refl _ _, rfl, fun h => by cases h⟩
      refine And.intro (fun w hw hd => ?_) ?_
      · refine ite_yes rfl ?_
        have c_b1 := fun i => (b1.kept hw).cell i
        have c_b4 := fun i => (b4.kept hw).cell i
        have c_bS := fun i => (bS.kept hw).cell i
        simp only [Gives]
        go_simp
        exact ⟨Below.refl _ _, rfl, fun h => by cases h⟩
      refine And.intro (fun w hw hd => ?_) ?_
      · have d1 := hd 1 (by decide) rfl
        change vs 1 = _ at d1
        refine ite_yes rfl ?_
        simp only [Gives]
        go_simp
        exact ⟨Below.refl _ _, rfl, fun h => by cases h⟩
      refine And.intro (fun w hw hd => ?_) ?_
      · have d2 := hd 2 (by decide) rfl
        change vs 2 = _ at d2
        refine ite_yes rfl ?_
        simp only [Gives]
        go_simp
        exact ⟨Below.refl _ _, rfl, fun h => by cases h⟩
      refine And.intro (fun w hw hd => ?_) ?_
      · have d3 := hd 3 (by decide) rfl
        change vs 3 = _ at d3
        refine ite_yes rfl ?_
        have c_b1 := fun i => (b1.kept hw).cell i
        have c_b4 := fun i => (b4.kept hw).cell i
        have c_bS := fun i => (bS.kept hw).cell i
        simp only [Gives]
        go_simp
        exact ⟨Below.refl _ _, rfl, fun h => by cases h⟩
      refine And.intro (fun w hw hd => ?_) ?_
      · have d4 := hd 4 (by decide) rfl
        change vs 4 = _ at d4
        refine ite_yes rfl ?_
        simp only [Gives]
        go_simp
        refine (end_any gl s r w (HL.out.kept hw)).mono ?_
        rintro e w1 ⟨rfl, hb⟩
        exact ⟨_, rfl, hb, rfl, fun h => by cases h⟩
      refine And.intro (fun w hw hd => ?_) ?_
      · have d0 := hd 0 (by decide) rfl
        change vs 0 = _ at d0
        have d5 := hd 5 (by decide) rfl
        change vs 5 = _ at d5
        refine ite_yes rfl ?_
        simp only [Gives]
        go_simp
        by_cases q1 : (i : Int) = (s.size : Int)
        · (have q2 := HE2.out q1; rw [if_pos q1, if_neg q2]; exact ⟨Below.refl _ _, rfl, fun h => by cases h⟩)
        · (rw [if_neg q1]; exact ⟨Below.refl _ _, rfl, fun h => by cases h⟩)
      exact trivial
    intro vs wt hw hd hne hlo
    have d0 := hd 0 (by decide)
    change vs 0 = _ at d0
    have d1 := hd 1 (by decide)
    change vs 1 = _ at d1
    have d2 := hd 2 (by decide)
    change vs 2 = _ at d2
    have d3 := hd 3 (by decide)
    change vs 3 = _ at d3
    have d4 := hd 4 (by decide)
    change vs 4 = _ at d4
    have d5 := hd 5 (by decide)
    change vs 5 = _ at d5
    have d6 := hd 6 (by decide)
    change vs 6 = _ at d6
    simp only [d0, d1, d2, d3, d4, d5, List.drop_succ_cons, List.drop_nil]
    have b1 := b1.kept hw
    have b4 := b4.kept hw
    have bS := bS.kept hw
    have c_b1 := fun i => b1.cell i
    have f_b1 := fun i => b1.free i
    have c_b4 := fun i => b4.cell i
    have f_b4 := fun i => b4.free i
    have c_bS := fun i => bS.cell i
    have f_bS := fun i => bS.free i
    clear hd hne hlo d0 d1 d2 d3 d4 d5
    simp only [Nat.zero_add, Nat.reduceAdd, d6]
    go_wp2_with fail
    gi_wp2_with fail
    have hFX := HFs.out.kept hm9 hw
    have hLX := HL.out.kept hw
    have hDX := HDs.out.kept hw
    clear HFs HL HDs HM HG
    have HFs := Lib.hid hFX
    have HL := Lib.hid hLX
    have HDs := Lib.hid hDX
    clear hw d6 hFX hLX hDX
    rename World => X
    apply wpIn_region_by open_wide 6 [(Fact.eq _), (Fact.eq _), (Fact.eq _), (Fact.eq _), (Fact.eq _), (Fact.nx gl i j X.heap.size)]
    case hm => kernel_rfl
    case hB => kernel_rfl
    case hpl => kernel_rfl
    case hA => (intro vs; simp only [List.take_succ_cons, List.take_zero, putAll, if_true, Act.put, List.setIfInBounds_toArray, List.set_cons_zero, List.set_cons_succ]; exact rfl)
    case hstep =>
      intro vs
      refine And.intro (fun w hw hd => ?_) ?_
      · refine ite_yes rfl ?_
        have c_b1 := fun i => (b1.kept hw).cell i
        have c_b4 := fun i => (b4.kept hw).cell i
        have c_bS := fun i => (bS.kept hw).cell i
        simp only [Gives]
        go_simp
        exact ⟨Below.refl _ _, rfl, fun h => by cases h⟩
      refine And.intro (fun w hw hd => ?_) ?_
      · have d0 := hd 0 (by decide) rfl
        change vs 0 = _ at d0
        refine ite_yes rfl ?_
        simp only [Gives]
        go_simp
        exact ⟨Below.refl _ _, rfl, fun h => by cases h⟩
      refine And.intro (fun w hw hd => ?_) ?_
      · have d1 := hd 1 (by decide) rfl
        change vs 1 = _ at d1
        refine ite_yes rfl ?_
        simp only [Gives]
        go_simp
        exact ⟨Below.refl _ _, rfl, fun h => by cases h⟩
      refine And.intro (fun w hw hd => ?_) ?_
      · have d2 := hd 2 (by decide) rfl
        change vs 2 = _ at d2
        refine ite_yes rfl ?_
        have c_b1 := fun i => (b1.kept hw).cell i
        have c_b4 := fun i => (b4.kept hw).cell i
        have c_bS := fun i => (bS.kept hw).cell i
        simp only [Gives]
        go_simp
        exact ⟨Below.refl _ _, rfl, fun h => by cases h⟩
      refine And.intro (fun w hw hd => ?_) ?_
      · refine ite_yes rfl ?_
        have c_b1 := fun i => (b1.kept hw).cell i
        have c_b4 := fun i => (b4.kept hw).cell i
        have c_bS := fun i => (bS.kept hw).cell i
        simp only [Gives]
        go_simp
        exact ⟨Below.refl _ _, rfl, fun h => by cases h⟩
      refine And.intro (fun w hw hd => ?_) ?_
      · have d3 := hd 3 (by decide) rfl
        change vs 3 = _ at d3
        have d4 := hd 4 (by decide) rfl
        change vs 4 = _ at d4
        refine ite_yes rfl ?_
        simp only [Gives]
        have hz9 := hw.size
        go_simp
        refine (next_any gl i j w).mono ?_
        rintro e w7 ⟨rfl, n1, n2, hb⟩
        exact ⟨_, rfl, hb, ⟨_, _, rfl, n1, n2, by omega, by omega⟩, fun h => by cases h⟩
      exact trivial
    intro vs wt hw hd hne hlo
    have d0 := hd 0 (by decide)
    change vs 0 = _ at d0
    have d1 := hd 1 (by decide)
    change vs 1 = _ at d1
    have d2 := hd 2 (by decide)
    change vs 2 = _ at d2
    have d3 := hd 3 (by decide)
    change vs 3 = _ at d3
    have d4 := hd 4 (by decide)
    change vs 4 = _ at d4
    have d5 := hd 5 (by decide)
    obtain ⟨g1, g2, d5, n1, n2, lo1, lo2⟩ := d5
    simp only [d0, d1, d2, d3, d4, List.drop_succ_cons, List.drop_nil]
    have b1 := b1.kept hw
    have b4 := b4.kept hw
    have bS := bS.kept hw
    have c_b1 := fun i => b1.cell i
    have f_b1 := fun i => b1.free i
    have c_b4 := fun i => b4.cell i
    have f_b4 := fun i => b4.free i
    have c_bS := fun i => bS.cell i
    have f_bS := fun i => bS.free i
    clear hd hne hlo d0 d1 d2 d3 d4
    simp only [Nat.zero_add, Nat.reduceAdd, d5]
    have hF0 := HFs.out.kept hm9 hw
    have hL0 := HL.out.kept hw
    have hD0 := HDs.out.kept hw
    have hzX := HFs.out.gr.size
    clear HFs HL HDs hw d5
    have HFs := Lib.hid hF0
    have HL := Lib.hid hL0
    have HDs := Lib.hid hD0
    clear hF0 hL0 hD0
    rename World => W0
    go_wp2_with fail
    gi_wp2_with fail
    have l1 := n1.lt
    have l2 := n2.lt
    have lD : Hid (∀ D ∈ Ds, D < W0.heap.size) := Lib.hid fun D hD => (Array.getElem?_eq_some_iff.1 (HDs.out D hD).2).1
    have hgl : gl ≠ gm := by
      obtain ⟨mm, hSm, -⟩ := HFs.out.sg
      exact hSm.lines.ne_map hSm.map
    have hzW : w.heap.size ≤ W0.heap.size := HFs.out.gr.size
    have hg4W : g4 < W0.heap.size := HFs.out.b4.lt
    have HSq := Lib.hid (next1_stops 8 (by omega) g1 g2 gl i j W0.heap.size gm gm s r W0 hi hj (by omega) (by omega) n1 n2 HL.out rfl ⟨by omega, by omega⟩ ⟨by omega, by omega⟩ ⟨hgl, hgl⟩)
    clear n1 n2
    refine wpIn_rangeFunc_ownH rfl (by omega) (gf := 101) (lb := #[.pointer (some ⟨g1, 0, none⟩), .pointer (some ⟨g2, 0, none⟩)]) rfl trivial callFunc_next1 HSq.out (fun {A B C} h k => KeptBut.trans h k) (fun W l o o' a b c d => kept_put _ _ _ W l o o' a b c d) (Below.refl _ _) (fun _ => rfl)
      (fun xs W => Fst w gs gl gm g4 i j s r pre W ∧ (∀ y ∈ xs, bestB s.data.toList r.data.toList (i, j) y.1 = false) ∧ W0.heap.size ≤ W.heap.size ∧ Marks w.heap.size Ds W)
      (fun c xs W => c = .exit 2 ∧ ∃ (xs' : List (Nx s.data.toList r.data.toList (i, j))) (x : Nx s.data.toList r.data.toList (i, j)), xs = xs' ++ [x] ∧ (∀ y ∈ xs', bestB s.data.toList r.data.toList (i, j) y.1 = false) ∧ bestB s.data.toList r.data.toList (i, j) x.1 = true ∧
        Fst w gs gl gm g4 x.1.2.1 x.1.2.2 s r (pre ++ [x.1.1]) W ∧ W0.heap.size ≤ W.heap.size ∧ Marks w.heap.size Ds W) ?hI ?hIx ⟨HFs.out, (fun y hy => by cases hy), Nat.le_refl _, HDs.out⟩
      (fun x a' W => ∃ Bx, W0.heap.size ≤ Bx ∧ Box W Bx 89 #[iv x.1.2.1, iv x.1.2.2] ∧ a' = { tmps := #[.pointer (some ⟨gs, 0, none⟩), .pointer (some ⟨w.heap.size, 0, none⟩), .slice none 0 0, .pointer (some ⟨w.heap.size + 1, 0, none⟩), .pointer (some ⟨g4, 0, none⟩), iv x.1.1, .pointer (some ⟨Bx, 0, none⟩), .agg #[iv 0, iv 0], .agg #[iv i, iv j], .pointer (some ⟨gs, 0, none⟩), .pointer (some ⟨gs, 0, none⟩), .pointer (some ⟨gs, 0, none⟩), .pointer (some ⟨gl, 0, none⟩), .agg #[iv s.size, iv r.size], .bool true,
        .pointer (some ⟨gs, 0, none⟩), .pointer (some ⟨gs, 0, none⟩), .pointer (some ⟨gs, 0, none⟩), .pointer (some ⟨gl, 0, none⟩), .agg #[iv i, iv j], .func (.func 101) #[] #[.pointer (some ⟨g1, 0, none⟩), .pointer (some ⟨g2, 0, none⟩)], iv x.1.1, .agg #[iv x.1.2.1, iv x.1.2.2], undef, undef, undef, undef, undef, undef, undef, undef, undef, undef, undef, undef, undef, undef, undef, undef, undef, undef, undef, undef, undef, undef, undef, u 46, undef], defers := [] }) ?hAx ?assign ?body ?done ?stop
    case hI =>
      rintro xs A B row ⟨h1, h2, h3, h4⟩ hg hr
      exact ⟨h1.off hg hzW hm9 hr, h2, Nat.le_trans h3 hg.size, h4.off hg fun r e D hD => by have := (hr r e).1; have := lD.out D hD; omega⟩
    case hIx =>
      rintro cc xs A B row ⟨h0, xs', x, q1, q2, q3, h1, h3, h4⟩ hg hr
      exact ⟨h0, xs', x, q1, q2, q3, h1.off hg hzW hm9 hr, Nat.le_trans h3 hg.size, h4.off hg fun r e D hD => by have := (hr r e).1; have := lD.out D hD; omega⟩
    case hAx =>
      rintro x a' _ A B row ⟨Bx, h1, h2, h3⟩ hg hr
      exact ⟨Bx, h1, h2.grown hg (box_off h2 hr), h3⟩
    case assign =>
      rintro l xs x W K ⟨hF, hno, hz, hD⟩ hK
      simp only [Nx.enc]
      gi_wp2_with fail
      exact hK _ _ ((KeepsOthers.alloc _ _).from _) (kept_of_below (up_alloc up0 _) hz) ⟨hF.kept hm9 (up_alloc up0 _), hno, by simp; omega, hD.kept (up_alloc up0 _)⟩ ⟨W.heap.size, hz, Box.new rfl, rfl⟩
    case body =>
      rintro l xs ⟨⟨k, a, c⟩, hk6, hq⟩ a' W hl ⟨rr, hrr⟩ ⟨hF, hno, hz, hD⟩ ⟨Bx, hBx, bX, rfl⟩ hlen
      simp only at hk6 hq bX ⊢
      have hls := Lib.size_eq s
      have hlr := Lib.size_eq r
      have hin := aftI_in hk6 (by omega) (by omega) hq
      have ha : a ≤ s.size := by omega
      have hc : c ≤ r.size := by omega
      obtain ⟨V, hV⟩ : ∃ V, fewI s.data.toList r.data.toList (a, c) = V := ⟨_, rfl⟩
      have hV9 : V ≤ 120 := by rw [← hV]; exact fewI_le (by simp only; omega) (by simp only; omega)
      obtain ⟨V0, hV0⟩ : ∃ V0, fewI s.data.toList r.data.toList (i, j) = V0 := ⟨_, rfl⟩
      have hen : errsN k ≤ 1 := by unfold errsN; split <;> omega
      obtain ⟨en, hen2⟩ : ∃ en, errsN k = en := ⟨_, rfl⟩
      have HB : Hid (bestB s.data.toList r.data.toList (i, j) (k, a, c) = (en + V == V0)) := Lib.hid (by unfold bestB; simp only; rw [hen2, hV, hV0])
      have HV := Lib.hid hV
      have HV0 := Lib.hid hV0
      have HEn := Lib.hid hen2
      have HFs := Lib.hid hF
      have HNo := Lib.hid hno
      have HDW := Lib.hid hD
      have HX := Lib.hid bX
      have k0 : (0 : Int) ≤ (k : Int) := by omega
      have k1 : (k : Int) < 6 := by omega
      rw [hen2] at hen
      have hW : IntKind.i64.wrap ((en : Int) + (V : Int)) = (en : Int) + (V : Int) := wrapK_in _ 3000 (by omega) (by omega)
      clear hls hlr hin hV hV0 hen2 hrr hF hno hD bX
      gi_wp2_with fail
      cases hbst : (en + V == V0) with
      | true =>
        have HBe := Lib.hid (HB.out.trans hbst)
        have e17 : ((en : Int) + (V : Int) == (V0 : Int)) = true := by
          rw [beq_iff_eq] at hbst ⊢
          omega
        clear hbst
        apply wpIn_region_grow (open_round _) 18 (some gm) [(FactR.eq _ _), (FactR.eq _ _), (FactR.eq _ _), (FactR.eq _ _), (FactR.eq _ _), (FactR.eq _ _), (FactR.eq _ _), (FactR.eq _ _), (FactR.eq _ _), (FactR.eq _ _), (FactR.eq _ _), (FactR.eq _ _), (FactR.eq _ (iv (V : Nat))), (FactR.eq _ _), (FactR.eq _ _), (FactR.eq _ _), (FactR.eq _ (iv (V0 : Nat))), (FactR.eq _ _)] (fun W => Fst w gs gl gm g4 i j s r pre W ∧ Box W Bx 89 #[iv a, iv c])
        case hm => kernel_rfl
        case hB => kernel_rfl
        case hpl => kernel_rfl
        case hSG => exact fun A B h hb => ⟨h.1.kept hm9 hb, h.2.kept hb⟩
        case h0 => exact ⟨HFs.out, HX.out⟩
        case hA => (intro vs; simp only [List.take_succ_cons, List.take_zero, putAll, if_true, Act.put, List.setIfInBounds_toArray, List.set_cons_zero, List.set_cons_succ]; exact rfl)
        case hstep =>
          intro vs
          refine And.intro (fun w hw hs hd => ?_) ?_
          · refine ite_yes rfl ?_
            have hs' := hs
            obtain ⟨⟨s1, -, s4, ⟨mm, ⟨sS, sL, -⟩, -⟩, -⟩, sX⟩ := hs'
            have c_1 := fun i => s1.cell i
            have c_4 := fun i => s4.cell i
            have c_S := fun i => sS.cell i
            have c_X := fun i => sX.cell i
            simp only [Gives]
            go_simp
            exact ⟨(grown_of_below (Below.refl _ _)).but _, hs, rfl⟩
          refine And.intro (fun w hw hs hd => ?_) ?_
          · have d0 := hd 0 (by decide) rfl
            change vs 0 = _ at d0
            refine ite_yes rfl ?_
            simp only [Gives]
            go_simp
            exact ⟨(grown_of_below (Below.refl _ _)).but _, hs, rfl⟩
          refine And.intro (fun w hw hs hd => ?_) ?_
          · have d1 := hd 1 (by decide) rfl
            change vs 1 = _ at d1
            refine ite_yes rfl ?_
            simp only [Gives]
            go_simp
            exact ⟨(grown_of_below (Below.refl _ _)).but _, hs, rfl⟩
          refine And.intro (fun w hw hs hd => ?_) ?_
          · have d2 := hd 2 (by decide) rfl
            change vs 2 = _ at d2
            refine ite_yes rfl ?_
            have hs' := hs
            obtain ⟨⟨s1, -, s4, ⟨mm, ⟨sS, sL, -⟩, -⟩, -⟩, sX⟩ := hs'
            have c_1 := fun i => s1.cell i
            have c_4 := fun i => s4.cell i
            have c_S := fun i => sS.cell i
            have c_X := fun i => sX.cell i
            simp only [Gives]
            go_simp
            exact ⟨(grown_of_below (Below.refl _ _)).but _, hs, rfl⟩
          refine And.intro (fun w hw hs hd => ?_) ?_
          · refine ite_yes rfl ?_
            simp only [Gives]
            go_simp
            exact ⟨(grown_of_below (Below.refl _ _)).but _, hs, rfl⟩
          refine And.intro (fun w hw hs hd => ?_) ?_
          · have d3 := hd 3 (by decide) rfl
            change vs 3 = _ at d3
            refine ite_yes rfl ?_
            simp only [Gives]
            go_simp
            exact ⟨(grown_of_below (Below.refl _ _)).but _, hs, rfl⟩
          refine And.intro (fun w hw hs hd => ?_) ?_
          · have d5 := hd 5 (by decide) rfl
            change vs 5 = _ at d5
            refine ite_yes rfl ?_
            simp only [Gives]
            go_simp
            exact ⟨(grown_of_below (Below.refl _ _)).but _, hs, rfl⟩
          refine And.intro (fun w hw hs hd => ?_) ?_
          · have d6 := hd 6 (by decide) rfl
            change vs 6 = _ at d6
            have d4 := hd 4 (by decide) rfl
            change vs 4 = _ at d4
            refine ite_yes rfl ?_
            simp only [Gives]
            go_simp
            exact ⟨(grown_of_below (Below.refl _ _)).but _, hs, rfl⟩
          refine And.intro (fun w hw hs hd => ?_) ?_
          · have d7 := hd 7 (by decide) rfl
            change vs 7 = _ at d7
            refine ite_yes rfl ?_
            simp only [Gives]
            go_simp
            exact ⟨(grown_of_below (Below.refl _ _)).but _, hs, rfl⟩
          refine And.intro (fun w hw hs hd => ?_) ?_
          · have d8 := hd 8 (by decide) rfl
            change vs 8 = _ at d8
            refine ite_yes rfl ?_
            have hs' := hs
            obtain ⟨⟨s1, -, s4, ⟨mm, ⟨sS, sL, -⟩, -⟩, -⟩, sX⟩ := hs'
            have c_1 := fun i => s1.cell i
            have c_4 := fun i => s4.cell i
            have c_S := fun i => sS.cell i
            have c_X := fun i => sX.cell i
            have q3 : w.cell? ⟨gl, 2 + k * 4 + 3, none⟩ = some (iv (en : Nat)) := HEn.out ▸ lines_err sL hk6
            simp only [Gives]
            go_simp
            exact ⟨(grown_of_below (Below.refl _ _)).but _, hs, rfl⟩
          refine And.intro (fun w hw hs hd => ?_) ?_
          · refine ite_yes rfl ?_
            have hs' := hs
            obtain ⟨⟨s1, -, s4, ⟨mm, ⟨sS, sL, -⟩, -⟩, -⟩, sX⟩ := hs'
            have c_1 := fun i => s1.cell i
            have c_4 := fun i => s4.cell i
            have c_S := fun i => sS.cell i
            have c_X := fun i => sX.cell i
            simp only [Gives]
            go_simp
            exact ⟨(grown_of_below (Below.refl _ _)).but _, hs, rfl⟩
          refine And.intro (fun w hw hs hd => ?_) ?_
          · refine ite_yes rfl ?_
            have hs' := hs
            obtain ⟨⟨s1, -, s4, ⟨mm, ⟨sS, sL, -⟩, -⟩, -⟩, sX⟩ := hs'
            have c_1 := fun i => s1.cell i
            have c_4 := fun i => s4.cell i
            have c_S := fun i => sS.cell i
            have c_X := fun i => sX.cell i
            simp only [Gives]
            go_simp
            exact ⟨(grown_of_below (Below.refl _ _)).but _, hs, rfl⟩
          refine And.intro (fun w hw hs hd => ?_) ?_
          · have d10 := hd 10 (by decide) rfl
            change vs 10 = _ at d10
            have d11 := hd 11 (by decide) rfl
            change vs 11 = _ at d11
            refine ite_yes rfl ?_
            simp only [Gives]
            go_simp
            exact fewest_fst hs9 hr9 ha hc HV.out hs
          refine And.intro (fun w hw hs hd => ?_) ?_
          · have d9 := hd 9 (by decide) rfl
            change vs 9 = _ at d9
            have d12 := hd 12 (by decide) rfl
            change vs 12 = _ at d12
            refine ite_yes rfl ?_
            simp only [Gives]
            go_simp
            exact ⟨(grown_of_below (Below.refl _ _)).but _, hs, rfl⟩
          refine And.intro (fun w hw hs hd => ?_) ?_
          · refine ite_yes rfl ?_
            have hs' := hs
            obtain ⟨⟨s1, -, s4, ⟨mm, ⟨sS, sL, -⟩, -⟩, -⟩, sX⟩ := hs'
            have c_1 := fun i => s1.cell i
            have c_4 := fun i => s4.cell i
            have c_S := fun i => sS.cell i
            have c_X := fun i => sX.cell i
            simp only [Gives]
            go_simp
            exact ⟨(grown_of_below (Below.refl _ _)).but _, hs, rfl⟩
          refine And.intro (fun w hw hs hd => ?_) ?_
          · refine ite_yes rfl ?_
            have hs' := hs
            obtain ⟨⟨s1, -, s4, ⟨mm, ⟨sS, sL, -⟩, -⟩, -⟩, sX⟩ := hs'
            have c_1 := fun i => s1.cell i
            have c_4 := fun i => s4.cell i
            have c_S := fun i => sS.cell i
            have c_X := fun i => sX.cell i
            simp only [Gives]
            go_simp
            exact ⟨(grown_of_below (Below.refl _ _)).but _, hs, rfl⟩
          refine And.intro (fun w hw hs hd => ?_) ?_
          · have d14 := hd 14 (by decide) rfl
            change vs 14 = _ at d14
            have d15 := hd 15 (by decide) rfl
            change vs 15 = _ at d15
            refine ite_yes rfl ?_
            simp only [Gives]
            go_simp
            exact fewest_fst hs9 hr9 hi hj HV0.out hs
          refine And.intro (fun w hw hs hd => ?_) ?_
          · have d13 := hd 13 (by decide) rfl
            change vs 13 = _ at d13
            have d16 := hd 16 (by decide) rfl
            change vs 16 = _ at d16
            refine ite_yes rfl ?_
            simp only [Gives]
            go_simp
            exact ⟨(grown_of_below (Below.refl _ _)).but _, hs, rfl⟩
          exact trivial
        intro vs wt hw hs hd
        have d0 := hd 0 (by decide)
        change vs 0 = _ at d0
        have d1 := hd 1 (by decide)
        change vs 1 = _ at d1
        have d2 := hd 2 (by decide)
        change vs 2 = _ at d2
        have d3 := hd 3 (by decide)
        change vs 3 = _ at d3
        have d4 := hd 4 (by decide)
        change vs 4 = _ at d4
        have d5 := hd 5 (by decide)
        change vs 5 = _ at d5
        have d6 := hd 6 (by decide)
        change vs 6 = _ at d6
        have d7 := hd 7 (by decide)
        change vs 7 = _ at d7
        have d8 := hd 8 (by decide)
        change vs 8 = _ at d8
        have d9 := hd 9 (by decide)
        change vs 9 = _ at d9
        have d10 := hd 10 (by decide)
        change vs 10 = _ at d10
        have d11 := hd 11 (by decide)
        change vs 11 = _ at d11
        have d12 := hd 12 (by decide)
        change vs 12 = _ at d12
        have d13 := hd 13 (by decide)
        change vs 13 = _ at d13
        have d14 := hd 14 (by decide)
        change vs 14 = _ at d14
        have d15 := hd 15 (by decide)
        change vs 15 = _ at d15
        have d16 := hd 16 (by decide)
        change vs 16 = _ at d16
        have d17 := hd 17 (by decide)
        change vs 17 = _ at d17
        simp only [d0, d1, d2, d3, d4, d5, d6, d7, d8, d9, d10, d11, d12, d13, d14, d15, d16, d17, List.drop_succ_cons, List.drop_nil]
        clear hd d0 d1 d2 d3 d4 d5 d6 d7 d8 d9 d10 d11 d12 d13 d14 d15 d16 d17
        obtain ⟨⟨s1, ⟨v3, s3, so⟩, s4, sSG, sgr⟩, sX⟩ := hs
        obtain ⟨A3, m3, p3, rfl⟩ := own_form so
        have HO := Lib.hid so
        have HSG := Lib.hid sSG
        have HGr := Lib.hid sgr
        have c3 := fun i => s3.cell i
        have cX := fun i => sX.cell i
        clear e17 so sSG sgr
        go_wp2_with fail
        gi_wp2_with fail
        have hpl : pre.length ≤ 80 := by
          have h1 := congrArg List.length HP.out
          rw [List.length_append] at h1
          have h2 := firstF_len s.data.toList r.data.toList (leftN s.data.toList r.data.toList (0, 0)) (0, 0)
          have h3 : leftN s.data.toList r.data.toList (0, 0) ≤ 80 := by
            unfold leftN
            simp only
            rw [← Lib.size_eq, ← Lib.size_eq]
            omega
          have h4 : firstI s.data.toList r.data.toList (0, 0) = firstF s.data.toList r.data.toList (leftN s.data.toList r.data.toList (0, 0)) (0, 0) := rfl
          rw [← h4] at h2
          omega
        obtain ⟨i0, hi0, hz0, hz1, hz2⟩ := info_parts int_info
        have hwt : w.heap.size ≤ wt.heap.size := Nat.le_trans hzW (Nat.le_trans hz hw.size)
        have l3 := s3.lt
        have l4 := s4.lt
        have lX := sX.lt
        have d34 : w.heap.size + 1 ≠ g4 := by omega
        have d3X : Bx ≠ w.heap.size + 1 := by omega
        have d4X : Bx ≠ g4 := by omega
        have HA0 := Lib.hid (App.start (p1 := #[iv a, iv c]) s3 s4 HO.out (.int .i64 k))
        have hXo := box_not_own sX (by decide) HO.out
        apply wpIn_region_inv (open_round _) 7 (App (w.heap.size + 1) g4 (.slice A3 m3 p3) pre.length (pre.map fun k : Nat => iv k) (.int .i64 k) #[iv i, iv j] #[iv a, iv c] w.heap.size wt)
        case hm => kernel_rfl
        case hpl => kernel_rfl
        case hB => kernel_rfl
        case hA => (intro vs; simp only [List.take_succ_cons, List.take_zero, putAll, if_true, Act.put, List.setIfInBounds_toArray, List.set_cons_zero, List.set_cons_succ]; exact rfl)
        case h0 => exact HA0.out
        case hstep =>
          intro L vs w2
          refine And.intro (fun hL hd hI => ?_) ?_
          · refine ite_yes rfl ?_
            have b3 := hI.b30 hL
            have c3 := fun i => b3.cell i
            simp only [Gives]
            go_simp
            exact hI.o0
          refine And.intro (fun hL hd hI => ?_) ?_
          · refine ite_yes rfl ?_
            simp only [Gives]
            go_simp
            exact hI.o1
          refine And.intro (fun hL hd hI => ?_) ?_
          · refine ite_yes rfl ?_
            have d1 := hI.v1 (hd 1 (by decide) rfl)
            simp only [Gives]
            go_simp
            exact hI.o2
          refine And.intro (fun hL hd hI => ?_) ?_
          · refine ite_yes rfl ?_
            have l0 := hd 0 (by decide) rfl
            have l2 := hd 2 (by decide) rfl
            have d0 := hI.v0 l0
            obtain ⟨g2, d2, hb2, hz2'⟩ := hI.v2 l2 hL
            obtain ⟨v', w', hra, hoa, hga, _, _⟩ := run_append_own_at (P := Tryz.prog) (w := w2) w.heap.size 25 25 3 i0 (.int .i64 0) 1 8 Tryz.underlying25 hi0 hz0 hz1 hz2 rfl (by decide) _ _ _ (hI.own0 hL) ⟨g2, 0, none⟩ 1 1 [.int .i64 (k : Nat)] rfl (box_newsM hb2) (by simp [Value.oneCell']) (by unfold maxLen; omega) (by omega) (Nat.le_trans hwt hI.size)
            have hn := hI.o3' hL l0 l2 hoa hga
            simp only [Gives]
            refine gives_append (.tmp 41) (.tmp 43) 25 rfl _ _ _ ?_ ?_ hra ?_
            · go_simp
            · go_simp
            · simpa using hn
          refine And.intro (fun hL hd hI => ?_) ?_
          · refine ite_yes rfl ?_
            have bX : Box w2 Bx 89 #[iv a, iv c] := (hI.block Bx lX d3X d4X hXo).trans sX
            have cX := fun i => bX.cell i
            simp only [Gives]
            go_simp
            exact hI.o4
          refine And.intro (fun hL hd hI => ?_) ?_
          · refine ite_yes rfl ?_
            have l3' := hd 3 (by decide) rfl
            have hO := hI.own
            rw [if_pos l3'] at hO
            obtain ⟨A9, m9, p9, d3⟩ := own_form hO
            have b3 := hI.b3
            have c3 := fun i => b3.cell i
            have f3 := fun i => b3.free i
            have hn := hI.o5' l3' (Ne.symm d34) _ d3
            clear hO b3
            simp only [Gives]
            go_simp
            exact hn
          refine And.intro (fun hL hd hI => ?_) trivial
          · refine ite_yes rfl ?_
            have d4 := hI.v4 (hd 4 (by decide) rfl)
            have b4 := hI.b4
            have c4 := fun i => b4.cell i
            have f4 := fun i => b4.free i
            have hn := hI.o6 hL d34 l4
            clear b4
            simp only [Gives]
            go_simp
            exact hn
        case htail =>
          intro L vs wz hall hI
          have HFz := Lib.hid (App.fst ⟨s1, ⟨_, s3, HO.out⟩, s4, HSG.out, HGr.out⟩ hI hall HO.out lgs lgl hm9 hg4)
          have HKz := Lib.hid (App.keeps (B := W0.heap.size) hI s3 s4 HO.out)
          have HMz := Lib.hid (App.marks hI s3 s4 HO.out (HDW.out.off hw (fun r e D hD e2 => by have := (HDW.out D hD).1; have := Option.some.inj e; omega)))
          have hsz := hI.size
          have hKw := KeepsFrom.of_grownBy (B := W0.heap.size) hw (fun x e => by cases e; omega)
          have hzz := hw.size
          simp only [List.drop_succ_cons, List.drop_nil]
          clear hI hall s1 s3 s4 sX hXo HA0 c3 cX
          go_wp2_with fail
          gi_wp2_with fail
          exact ⟨hKw.trans HKz.out, rfl, xs, ⟨(k, a, c), hk6, hq⟩, rfl, HNo.out, HBe.out, HFz.out, Nat.le_trans hz (Nat.le_trans hzz hsz), HMz.out⟩
      | false =>
        have HBe := Lib.hid (HB.out.trans hbst)
        have e17 : ((en : Int) + (V : Int) == (V0 : Int)) = false := by
          rw [beq_eq_false_iff_ne] at hbst ⊢
          omega
        clear hbst
        apply wpIn_region_grow (open_round _) 18 (some gm) [(FactR.eq _ _), (FactR.eq _ _), (FactR.eq _ _), (FactR.eq _ _), (FactR.eq _ _), (FactR.eq _ _), (FactR.eq _ _), (FactR.eq _ _), (FactR.eq _ _), (FactR.eq _ _), (FactR.eq _ _), (FactR.eq _ _), (FactR.eq _ (iv (V : Nat))), (FactR.eq _ _), (FactR.eq _ _), (FactR.eq _ _), (FactR.eq _ (iv (V0 : Nat))), (FactR.eq _ _)] (fun W => Fst w gs gl gm g4 i j s r pre W ∧ Box W Bx 89 #[iv a, iv c])
        case hm => kernel_rfl
        case hB => kernel_rfl
        case hpl => kernel_rfl
        case hSG => exact fun A B h hb => ⟨h.1.kept hm9 hb, h.2.kept hb⟩
        case h0 => exact ⟨HFs.out, HX.out⟩
        case hA => (intro vs; simp only [List.take_succ_cons, List.take_zero, putAll, if_true, Act.put, List.setIfInBounds_toArray, List.set_cons_zero, List.set_cons_succ]; exact rfl)
        case hstep =>
          intro vs
          refine And.intro (fun w hw hs hd => ?_) ?_
          · refine ite_yes rfl ?_
            have hs' := hs
            obtain ⟨⟨s1, -, s4, ⟨mm, ⟨sS, sL, -⟩, -⟩, -⟩, sX⟩ := hs'
            have c_1 := fun i => s1.cell i
            have c_4 := fun i => s4.cell i
            have c_S := fun i => sS.cell i
            have c_X := fun i => sX.cell i
            simp only [Gives]
            go_simp
            exact ⟨(grown_of_below (Below.refl _ _)).but _, hs, rfl⟩
          refine And.intro (fun w hw hs hd => ?_) ?_
          · have d0 := hd 0 (by decide) rfl
            change vs 0 = _ at d0
            refine ite_yes rfl ?_
            simp only [Gives]
            go_simp
            exact ⟨(grown_of_below (Below.refl _ _)).but _, hs, rfl⟩
          refine And.intro (fun w hw hs hd => ?_) ?_
          · have d1 := hd 1 (by decide) rfl
            change vs 1 = _ at d1
            refine ite_yes rfl ?_
            simp only [Gives]
            go_simp
            exact ⟨(grown_of_below (Below.refl _ _)).but _, hs, rfl⟩
          refine And.intro (fun w hw hs hd => ?_) ?_
          · have d2 := hd 2 (by decide) rfl
            change vs 2 = _ at d2
            refine ite_yes rfl ?_
            have hs' := hs
            obtain ⟨⟨s1, -, s4, ⟨mm, ⟨sS, sL, -⟩, -⟩, -⟩, sX⟩ := hs'
            have c_1 := fun i => s1.cell i
            have c_4 := fun i => s4.cell i
            have c_S := fun i => sS.cell i
            have c_X := fun i => sX.cell i
            simp only [Gives]
            go_simp
            exact ⟨(grown_of_below (Below.refl _ _)).but _, hs, rfl⟩
          refine And.intro (fun w hw hs hd => ?_) ?_
          · refine ite_yes rfl ?_
            simp only [Gives]
            go_simp
            exact ⟨(grown_of_below (Below.refl _ _)).but _, hs, rfl⟩
          refine And.intro (fun w hw hs hd => ?_) ?_
          · have d3 := hd 3 (by decide) rfl
            change vs 3 = _ at d3
            refine ite_yes rfl ?_
            simp only [Gives]
            go_simp
            exact ⟨(grown_of_below (Below.refl _ _)).but _, hs, rfl⟩
          refine And.intro (fun w hw hs hd => ?_) ?_
          · have d5 := hd 5 (by decide) rfl
            change vs 5 = _ at d5
            refine ite_yes rfl ?_
            simp only [Gives]
            go_simp
            exact ⟨(grown_of_below (Below.refl _ _)).but _, hs, rfl⟩
          refine And.intro (fun w hw hs hd => ?_) ?_
          · have d6 := hd 6 (by decide) rfl
            change vs 6 = _ at d6
            have d4 := hd 4 (by decide) rfl
            change vs 4 = _ at d4
            refine ite_yes rfl ?_
            simp only [Gives]
            go_simp
            exact ⟨(grown_of_below (Below.refl _ _)).but _, hs, rfl⟩
          refine And.intro (fun w hw hs hd => ?_) ?_
          · have d7 := hd 7 (by decide) rfl
            change vs 7 = _ at d7
            refine ite_yes rfl ?_
            simp only [Gives]
            go_simp
            exact ⟨(grown_of_below (Below.refl _ _)).but _, hs, rfl⟩
          refine And.intro (fun w hw hs hd => ?_) ?_
          · have d8 := hd 8 (by decide) rfl
            change vs 8 = _ at d8
            refine ite_yes rfl ?_
            have hs' := hs
            obtain ⟨⟨s1, -, s4, ⟨mm, ⟨sS, sL, -⟩, -⟩, -⟩, sX⟩ := hs'
            have c_1 := fun i => s1.cell i
            have c_4 := fun i => s4.cell i
            have c_S := fun i => sS.cell i
            have c_X := fun i => sX.cell i
            have q3 : w.cell? ⟨gl, 2 + k * 4 + 3, none⟩ = some (iv (en : Nat)) := HEn.out ▸ lines_err sL hk6
            simp only [Gives]
            go_simp
            exact ⟨(grown_of_below (Below.refl _ _)).but _, hs, rfl⟩
          refine And.intro (fun w hw hs hd => ?_) ?_
          · refine ite_yes rfl ?_
            have hs' := hs
            obtain ⟨⟨s1, -, s4, ⟨mm, ⟨sS, sL, -⟩, -⟩, -⟩, sX⟩ := hs'
            have c_1 := fun i => s1.cell i
            have c_4 := fun i => s4.cell i
            have c_S := fun i => sS.cell i
            have c_X := fun i => sX.cell i
            simp only [Gives]
            go_simp
            exact ⟨(grown_of_below (Below.refl _ _)).but _, hs, rfl⟩
          refine And.intro (fun w hw hs hd => ?_) ?_
          · refine ite_yes rfl ?_
            have hs' := hs
            obtain ⟨⟨s1, -, s4, ⟨mm, ⟨sS, sL, -⟩, -⟩, -⟩, sX⟩ := hs'
            have c_1 := fun i => s1.cell i
            have c_4 := fun i => s4.cell i
            have c_S := fun i => sS.cell i
            have c_X := fun i => sX.cell i
            simp only [Gives]
            go_simp
            exact ⟨(grown_of_below (Below.refl _ _)).but _, hs, rfl⟩
          refine And.intro (fun w hw hs hd => ?_) ?_
          · have d10 := hd 10 (by decide) rfl
            change vs 10 = _ at d10
            have d11 := hd 11 (by decide) rfl
            change vs 11 = _ at d11
            refine ite_yes rfl ?_
            simp only [Gives]
            go_simp
            exact fewest_fst hs9 hr9 ha hc HV.out hs
          refine And.intro (fun w hw hs hd => ?_) ?_
          · have d9 := hd 9 (by decide) rfl
            change vs 9 = _ at d9
            have d12 := hd 12 (by decide) rfl
            change vs 12 = _ at d12
            refine ite_yes rfl ?_
            simp only [Gives]
            go_simp
            exact ⟨(grown_of_below (Below.refl _ _)).but _, hs, rfl⟩
          refine And.intro (fun w hw hs hd => ?_) ?_
          · refine ite_yes rfl ?_
            have hs' := hs
            obtain ⟨⟨s1, -, s4, ⟨mm, ⟨sS, sL, -⟩, -⟩, -⟩, sX⟩ := hs'
            have c_1 := fun i => s1.cell i
            have c_4 := fun i => s4.cell i
            have c_S := fun i => sS.cell i
            have c_X := fun i => sX.cell i
            simp only [Gives]
            go_simp
            exact ⟨(grown_of_below (Below.refl _ _)).but _, hs, rfl⟩
          refine And.intro (fun w hw hs hd => ?_) ?_
          · refine ite_yes rfl ?_
            have hs' := hs
            obtain ⟨⟨s1, -, s4, ⟨mm, ⟨sS, sL, -⟩, -⟩, -⟩, sX⟩ := hs'
            have c_1 := fun i => s1.cell i
            have c_4 := fun i => s4.cell i
            have c_S := fun i => sS.cell i
            have c_X := fun i => sX.cell i
            simp only [Gives]
            go_simp
            exact ⟨(grown_of_below (Below.refl _ _)).but _, hs, rfl⟩
          refine And.intro (fun w hw hs hd => ?_) ?_
          · have d14 := hd 14 (by decide) rfl
            change vs 14 = _ at d14
            have d15 := hd 15 (by decide) rfl
            change vs 15 = _ at d15
            refine ite_yes rfl ?_
            simp only [Gives]
            go_simp
            exact fewest_fst hs9 hr9 hi hj HV0.out hs
          refine And.intro (fun w hw hs hd => ?_) ?_
          · have d13 := hd 13 (by decide) rfl
            change vs 13 = _ at d13
            have d16 := hd 16 (by decide) rfl
            change vs 16 = _ at d16
            refine ite_yes rfl ?_
            simp only [Gives]
            go_simp
            exact ⟨(grown_of_below (Below.refl _ _)).but _, hs, rfl⟩
          exact trivial
        intro vs wt hw hs hd
        have d0 := hd 0 (by decide)
        change vs 0 = _ at d0
        have d1 := hd 1 (by decide)
        change vs 1 = _ at d1
        have d2 := hd 2 (by decide)
        change vs 2 = _ at d2
        have d3 := hd 3 (by decide)
        change vs 3 = _ at d3
        have d4 := hd 4 (by decide)
        change vs 4 = _ at d4
        have d5 := hd 5 (by decide)
        change vs 5 = _ at d5
        have d6 := hd 6 (by decide)
        change vs 6 = _ at d6
        have d7 := hd 7 (by decide)
        change vs 7 = _ at d7
        have d8 := hd 8 (by decide)
        change vs 8 = _ at d8
        have d9 := hd 9 (by decide)
        change vs 9 = _ at d9
        have d10 := hd 10 (by decide)
        change vs 10 = _ at d10
        have d11 := hd 11 (by decide)
        change vs 11 = _ at d11
        have d12 := hd 12 (by decide)
        change vs 12 = _ at d12
        have d13 := hd 13 (by decide)
        change vs 13 = _ at d13
        have d14 := hd 14 (by decide)
        change vs 14 = _ at d14
        have d15 := hd 15 (by decide)
        change vs 15 = _ at d15
        have d16 := hd 16 (by decide)
        change vs 16 = _ at d16
        have d17 := hd 17 (by decide)
        change vs 17 = _ at d17
        simp only [d0, d1, d2, d3, d4, d5, d6, d7, d8, d9, d10, d11, d12, d13, d14, d15, d16, d17, List.drop_succ_cons, List.drop_nil]
        clear hd d0 d1 d2 d3 d4 d5 d6 d7 d8 d9 d10 d11 d12 d13 d14 d15 d16 d17
        clear e17
        go_wp2_with fail
        gi_wp2_with fail
        refine ⟨KeepsFrom.of_grownBy hw (fun x e => by cases e; omega), ⟨hw.size, fun x hx h1 _ => hw.block x (by omega) (fun e => h1 (Option.some.inj e))⟩, hs.1, ?_, Nat.le_trans hz hw.size, HDW.out.off hw (fun r e D hD e2 => by have := (HDW.out D hD).1; have := Option.some.inj e; omega)⟩
        intro y hy
        rcases List.mem_append.1 hy with hy | hy
        · exact HNo.out y hy
        · obtain rfl := List.mem_singleton.1 hy
          exact HBe.out
    case done =>
      rintro D xs W hD hxs ⟨hF, hno, -, -⟩ hK
      exfalso
      obtain ⟨x, hx, hb⟩ := best_some (p := (i, j)) (Nat.le_trans hi (Nat.le_of_eq (Lib.size_eq s))) (Nat.le_trans hj (Nat.le_of_eq (Lib.size_eq r))) HE.out HW.out
      rw [← hxs] at hx
      obtain ⟨y, hy, rfl⟩ := List.mem_map.1 hx
      rw [hno y hy] at hb
      cases hb
    case stop =>
      rintro D cc xs W hD ⟨n, hn, hxs⟩ ⟨rfl, xs', ⟨⟨k, a, c⟩, hk6, hq⟩, rfl, hno, hyes, hF, hz, hDW⟩ hK
      simp only at hk6 hq hyes hF
      have hls := Lib.size_eq s
      have hlr := Lib.size_eq r
      have hin := aftI_in hk6 (by omega) (by omega) hq
      have hstep := firstI_step (pre := xs'.map (·.1)) (n := n) (by omega) (by omega) HE.out hn hk6 hq (by rw [← hxs, List.map_append]; rfl) (fun y hy => by
        obtain ⟨z, hz, rfl⟩ := List.mem_map.1 hy
        exact hno z hz) hyes
      have HPn := Lib.hid (show (pre ++ [k]) ++ firstI s.data.toList r.data.toList (a, c) = firstI s.data.toList r.data.toList (0, 0) by rw [← HP.out, hstep, List.append_assoc]; rfl)
      have HWn := Lib.hid (best_lt (x := (k, a, c)) hyes HW.out)
      have HLt := Lib.hid (show leftN s.data.toList r.data.toList (a, c) < L by
        rw [← HLn.out]
        unfold leftN
        simp only
        omega)
      have ha : a ≤ s.size := by omega
      have hc : c ≤ r.size := by omega
      have HFn := Lib.hid hF
      have HDn := Lib.hid (show Marks w.heap.size (D :: Ds) W from fun E hE => by
        rcases List.mem_cons.1 hE with rfl | hE
        · exact ⟨Nat.le_trans hzW hD, hK⟩
        · exact hDW E hE)
      have HNn := Lib.hid (show (D :: Ds).Nodup from List.nodup_cons.2 ⟨fun h => by have := lD.out D h; omega, HN.out⟩)
      have b4 := hF.b4
      have c4 := fun i => b4.cell i
      clear hls hlr hin hstep hxs hno hyes hF hDW hK
      gi_wp2_with fail
      have hFr : ∀ (x : Value) (A : Act), A = FrA gs w.heap.size (w.heap.size + 1) W.heap.size (fun n => if n = 8 then .agg #[iv i, iv j] else if n ≤ 11 then .pointer (some ⟨gs, 0, none⟩) else if n = 12 then .pointer (some ⟨gl, 0, none⟩) else if n = 13 then .agg #[iv s.size, iv r.size] else if n = 14 then .bool true
        else if n ≤ 17 then .pointer (some ⟨gs, 0, none⟩) else if n = 18 then .pointer (some ⟨gl, 0, none⟩) else if n = 19 then .agg #[iv i, iv j] else if n = 20 then x else .agg #[iv a, iv c]) (D :: Ds) →
          FInv w gs gl gm s r A (W.alloc (.cells #[iv a, iv c] 89)) ∧ msr s.data.toList r.data.toList A (W.alloc (.cells #[iv a, iv c] 89)) < L := fun x A hA => by
        have hT := (HFn.out.turn hm9)
        subst hA
        refine ⟨⟨W.heap.size, a, c, pre ++ [k], _, D :: Ds, rfl, hT, ha, hc, HWn.out, HPn.out, HNn.out, HDn.out.kept (up_alloc up0 _), ?_⟩, ?_⟩
        · have := HFn.out.b4.lt
          have := HFn.out.gr.size
          omega
        · rw [msr_at hT.b4]
          exact HLt.out
      refine hFr (.func (.func 101) #[] #[.pointer (some ⟨g1, 0, none⟩), .pointer (some ⟨g2, 0, none⟩)]) _ ?_
      unfold FrA
      rw [← HD.out]
      rfl
theorem first_any (gs gl gm : Nat) (s r : ByteArray) (m : List ((Int × Int) × Value)) (w : World) (hs9 : s.size ≤ 40) (hr9 : r.size ≤ 40) (hS : SrAt w gs gl gm s r m) (hG : Good s.data.toList r.data.toList 0 m) (hf : fewI s.data.toList r.data.toList (0, 0) < 120) :
    Calls Tryz.prog 59 #[.pointer (some ⟨gs, 0, none⟩)] w fun e w' => ∃ v, e = .returned v ∧ w'.ownsRow w.heap.size 3 1 v (firstI s.data.toList r.data.toList (0, 0)).length ((firstI s.data.toList r.data.toList (0, 0)).map fun k : Nat => iv k) ∧ w.grownBy w' (some gm) :=
  callsIn_wide.1 (first_in gs gl gm s r m w hs9 hr9 hS hG hf)
/-- The first explanation, or none. -/
def explL (s r : ByteArray) : List Nat := if searchE s r = 0 then firstI s.data.toList r.data.toList (0, 0) else []
set_option maxRecDepth 100000 in
set_option maxHeartbeats 1500000 in
theorem Explain_any (s r : ByteArray) (w : World) : Calls Tryz.prog 28 #[.string s, .string r] w fun e w' => ∃ v, e = .returned (.tuple #[v, iv (searchE s r)]) ∧ w'.ownsRow w.heap.size 3 1 v (explL s r).length ((explL s r).map fun k : Nat => iv k) ∧ (searchE s r ≠ 0 → v = .slice none 0 0) ∧ Below w.heap.size w w' := by
  obtain ⟨E, hE⟩ : ∃ E, searchE s r = E := ⟨_, rfl⟩
  by_cases c1 : E = 0
  · subst c1
    have HE := Lib.hid hE
    have Hr := Lib.hid (show firstI s.data.toList r.data.toList (0, 0) = explL s r by unfold explL; rw [if_pos hE])
    have Hf := Lib.hid (show fewI s.data.toList r.data.toList (0, 0) < 120 by
      have h9 := fewI_le (S := s.data.toList) (R := r.data.toList) (p := (0, 0)) (Nat.zero_le _) (Nat.zero_le _)
      have h8 := hE
      unfold searchE at h8
      split at h8
      · rename_i hx; exact absurd h8 hx
      · split at h8
        · cases h8
        · omega)
    rw [hE]
    clear hE
    go_enter Tryz.func28, Tryz.ntmps28
    go_wp2_with fail
    refine (explain_any s r _).mono ?_
    rintro e w1 ⟨-, h1, hb⟩
    obtain ⟨h40, h41, gs, gl, gm, m, rfl, hS, hG, hz⟩ := h1 HE.out
    have HB := Lib.hid hb
    have HS := Lib.hid hS
    have HG := Lib.hid hG
    clear h1 hb hS hG
    go_wp2_with fail
    refine (first_any gs gl gm s r m w1 h40 h41 HS.out HG.out Hf.out).mono ?_
    rintro e w2 ⟨v, rfl, ho, hg⟩
    have HB2 := Lib.hid (below_grown HB.out hg hz (Nat.le_refl _))
    have HO := Lib.hid (own_mono ho HB.out.size)
    clear hg ho
    go_wp2_with fail
    go_ret2
    refine ⟨_, rfl, ?_, fun h => absurd rfl h, HB2.out⟩
    rw [← Hr.out]
    exact HO.out
  · have HE := Lib.hid hE
    have Hr := Lib.hid (show explL s r = [] by unfold explL; rw [if_neg (by rw [hE]; exact c1)])
    have e1 : (E == 0) = false := by rw [beq_eq_false_iff_ne]; exact c1
    have e2 : (E != 0) = true := by rw [bne, e1]; rfl
    rw [hE]
    clear hE c1
    go_enter Tryz.func28, Tryz.ntmps28
    go_wp2_with fail
    refine (explain_any s r _).mono ?_
    rintro e w1 ⟨h1, -, hb⟩
    obtain rfl := h1 (by rw [HE.out]; intro h; rw [h] at e1; cases e1)
    rw [HE.out]
    clear h1
    go_wp2_with fail
    go_ret2
    refine ⟨_, rfl, ?_, fun _ => rfl, hb⟩
    rw [Hr.out]
    exact ⟨by simp, .inl ⟨rfl, rfl⟩⟩
end Go.Proofs.YtonekgefegfapaaGreat
