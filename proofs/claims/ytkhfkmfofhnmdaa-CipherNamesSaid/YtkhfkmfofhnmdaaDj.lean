/-
  WALK of the law's Book: a book is copied. Conditions: lists have at most 1000 elements.
-/
import Derived.Test.YtkhfkmfofhnmdaaDh
namespace Go.Proofs.Ytkhfkmfofhnmdaa
open Go.RowKit Go.Shelf
attribute [local go_sem] Oper.semAt_some

theorem take_flat' {α : Type} {f : α → List Value} {l : List α} {k : Nat} {x : α} (h : l[k]? = some x) : (l.take (k + 1)).flatMap f = (l.take k).flatMap f ++ f x := by
  rw [List.take_add_one, h, List.flatMap_append]
  simp
theorem key_info : (Try.prog.info? 78).map (fun i => (i.zero, i.size, i.bytes)) = some (some (.agg #[iv 0, iv 0, iv 0]), 3, 24) := by kernel_rfl
structure OutB (n0 g : Nat) (ins : Array Value) (b : Bk) (w : World) (k : Nat) (u1 u2 : Value) : Prop where
  inb : Box w n0 25 ins
  res : Box w (n0 + 1) 32 #[iv 0, iv 0, .slice none 0 0, .slice none 0 0]
  out : Box w g 32 #[iv b.n, iv b.w, u1, u2]
  lo : n0 + 2 ≤ g
  o1 : w.ownsRow n0 78 3 u1 k ((b.ks.take k).flatMap Ky.cells)
  o2 : w.ownsRow n0 3 1 u2 b.ds.length (b.ds.map iv)
section
variable {n0 g : Nat} {ins : Array Value} {b : Bk} {w w2 : World} {k : Nat} {u1 u2 u' : Value}
theorem OutB.kept (h : OutB n0 g ins b w k u1 u2) (hb : Below w.heap.size w w2) : OutB n0 g ins b w2 k u1 u2 :=
  ⟨h.inb.kept hb, h.res.kept hb, h.out.kept hb, h.lo, own_below h.o1 hb, own_below h.o2 hb⟩
theorem OutB.put1 {x : Ky} (h : OutB n0 g ins b w k u1 u2) (hx : b.ks[k]? = some x) (hg : w.grownBy w2 u1.ownBlock) (ho : w2.ownsRow n0 78 3 u' (k + 1) ((b.ks.take k).flatMap Ky.cells ++ Ky.cells x)) : OutB n0 g ins b (w2.setCell ⟨g, 2, none⟩ u') (k + 1) u' u2 := by
  have hb := h.out.grown hg (box_not_own h.out (by decide) h.o1)
  have hlo := h.lo
  refine ⟨(h.inb.grown hg (box_not_own h.inb (by decide) h.o1)).far (p := ⟨g, 2, none⟩) (by show n0 ≠ g; omega) _, (h.res.grown hg (box_not_own h.res (by decide) h.o1)).far (p := ⟨g, 2, none⟩) (by show n0 + 1 ≠ g; omega) _, hb.put 2 u', h.lo, ?_, own_set (own_other h.o2 h.o1 (by decide) hg) hb (by decide)⟩
  rw [take_flat' hx]
  exact own_set ho hb (by decide)
end

/-- A book's cells before its keys, its days being a slice that owns its cells. -/
def Fact.bookP (n0 : Nat) (b : Bk) : Fact := ⟨fun v w => ∃ A p, v = .agg #[iv b.n, iv b.w, .slice none 0 0, .slice A b.ds.length p] ∧ w.ownsRow n0 3 1 (.slice A b.ds.length p) b.ds.length (b.ds.map iv), fun _ _ _ ⟨A, p, h, h1⟩ hb => ⟨A, p, h, own_below h1 hb⟩, false, fun _ _ h => by cases h⟩
set_option maxRecDepth 100000 in
set_option maxHeartbeats 2000000 in
theorem Book_any (v1 v2 : Value) (b : Bk) (w : World) (hL : BookAt w v1 v2 b) :
    Calls Try.prog 20 #[.agg #[iv b.n, iv b.w, v1, v2]] w fun e w' => ∃ u1 u2, e = .returned (bookV b u1 u2) ∧ BookAt w' u1 u2 b ∧ Below w.heap.size w w' := by
  obtain ⟨i1, hi1, hz10, hz11, hz12⟩ := info_parts key_info
  obtain ⟨hn1, A1, cap1, rfl, _, _⟩ := hL.ks.form
  obtain ⟨hn2, A2, cap2, rfl, _, _⟩ := hL.ds.form
  have HL := Lib.hid hL
  clear hL
  obtain ⟨ins, hins⟩ : ∃ ins : Array Value, ins = #[iv b.n, iv b.w, .slice A1 b.ks.length cap1, .slice A2 b.ds.length cap2] := ⟨_, rfl⟩
  have Hins := Lib.hid hins
  clear hins
  go_enter Try.func20, Try.ntmps20
  go_wp2_with fail
  have NI := (Box.new (w := w) (t := 25) (cs := #[iv b.n, iv b.w, .slice A1 b.ks.length cap1, .slice A2 b.ds.length cap2]) rfl).alloc (.cells #[iv 0, iv 0, .slice none 0 0, .slice none 0 0] 32)
  have NR := Box.new (w := w.alloc (.cells #[iv b.n, iv b.w, .slice A1 b.ks.length cap1, .slice A2 b.ds.length cap2] 25)) (g := w.heap.size + 1) (t := 32) (cs := #[iv 0, iv 0, .slice none 0 0, .slice none 0 0]) (by simp)
  have HB0 := Lib.hid (up_alloc (up_alloc (up0 (w := w)) (.cells #[iv b.n, iv b.w, .slice A1 b.ks.length cap1, .slice A2 b.ds.length cap2] 25)) (.cells #[iv 0, iv 0, .slice none 0 0, .slice none 0 0] 32))
  have HD := Lib.hid (HL.out.ds.kept HB0.out)
  apply wp_region_by 9 [(Fact.eq _), (Fact.eq _), (Fact.eq _), (Fact.eq _), (Fact.eq _), (Fact.eq _), (Fact.owned w.heap.size b.ds.length (b.ds.map iv)), (Fact.bookP w.heap.size b), (Fact.box 32 _)]
  case hm => kernel_rfl
  case hB => kernel_rfl
  case hA => (intro vs; simp only [List.take_succ_cons, List.take_zero, putAll, if_true, Act.put, List.setIfInBounds_toArray, List.set_cons_zero, List.set_cons_succ]; exact rfl)
  case hstep =>
    intro vs
    refine And.intro (fun w hw hd => ?_) ?_
    · refine ite_yes rfl ?_
      simp only [Gives]
      go_simp
      exact ⟨Below.refl _ _, rfl, fun h => by cases h⟩
    refine And.intro (fun w hw hd => ?_) ?_
    · have d0 := hd 0 (by decide) rfl
      change vs 0 = _ at d0
      refine ite_yes rfl ?_
      have c_NI := fun i => (NI.kept hw).cell i
      have c_NR := fun i => (NR.kept hw).cell i
      simp only [Gives]
      go_simp
      exact ⟨Below.refl _ _, rfl, fun h => by cases h⟩
    refine And.intro (fun w hw hd => ?_) ?_
    · refine ite_yes rfl ?_
      simp only [Gives]
      go_simp
      exact ⟨Below.refl _ _, rfl, fun h => by cases h⟩
    refine And.intro (fun w hw hd => ?_) ?_
    · have d2 := hd 2 (by decide) rfl
      change vs 2 = _ at d2
      refine ite_yes rfl ?_
      have c_NI := fun i => (NI.kept hw).cell i
      have c_NR := fun i => (NR.kept hw).cell i
      simp only [Gives]
      go_simp
      exact ⟨Below.refl _ _, rfl, fun h => by cases h⟩
    refine And.intro (fun w hw hd => ?_) ?_
    · refine ite_yes rfl ?_
      simp only [Gives]
      go_simp
      exact ⟨Below.refl _ _, rfl, fun h => by cases h⟩
    refine And.intro (fun w hw hd => ?_) ?_
    · have d4 := hd 4 (by decide) rfl
      change vs 4 = _ at d4
      refine ite_yes rfl ?_
      have c_NI := fun i => (NI.kept hw).cell i
      have c_NR := fun i => (NR.kept hw).cell i
      simp only [Gives]
      go_simp
      exact ⟨Below.refl _ _, rfl, fun h => by cases h⟩
    refine And.intro (fun w hw hd => ?_) ?_
    · have d5 := hd 5 (by decide) rfl
      change vs 5 = _ at d5
      refine ite_yes rfl ?_
      simp only [Gives]
      go_simp
      refine (list_own _ b.ds w (HD.out.kept hw)).mono ?_
      rintro e w1 ⟨v, rfl, ho, hb⟩
      obtain ⟨A', p', rfl⟩ := own_form' ho
      exact ⟨_, rfl, hb, ⟨A', p', rfl, own_mono ho (Nat.le_trans HB0.out.size hw.size)⟩, fun h => by cases h⟩
    refine And.intro (fun w hw hd => ?_) ?_
    · have d1 := hd 1 (by decide) rfl
      change vs 1 = _ at d1
      have d3 := hd 3 (by decide) rfl
      change vs 3 = _ at d3
      have d6 := hd 6 (by decide) rfl
      obtain ⟨A6, p6, d6, O6⟩ := d6
      refine ite_yes rfl ?_
      simp only [Gives]
      go_simp
      exact ⟨Below.refl _ _, ⟨_, _, rfl, O6⟩, fun h => by cases h⟩
    refine And.intro (fun w hw hd => ?_) ?_
    · refine ite_yes rfl ?_
      simp only [Gives]
      go_simp
      exact ⟨(Below.refl _ _).alloc (Nat.le_refl _) _, ⟨_, rfl, Box.new rfl⟩, fun _ => Nat.le_refl _⟩
    exact trivial
  intro vs wt hw hd hne hlo
  have d0 := hd 0 (by decide)
  change vs 0 = _ at d0
  have d1 := hd 1 (by decide)
  change vs 1 = _ at d1
  have d2 := hd 2 (by decide)
  change vs 2 = _ at d2
  have d3 := hd 3 (by decide)
  change vs 3 = _ at d3
  have d4 := hd 4 (by decide)
  change vs 4 = _ at d4
  have d5 := hd 5 (by decide)
  change vs 5 = _ at d5
  have d6 := hd 6 (by decide)
  obtain ⟨A6, p6, d6, O6⟩ := d6
  have d7 := hd 7 (by decide)
  obtain ⟨A7, p7, d7, O7⟩ := d7
  obtain ⟨n8, d8, N8⟩ := hd 8 (by decide)
  have l8 := hlo 8 (by decide) rfl
  simp only [d8, blk] at l8
  simp only [d0, d1, d2, d3, d4, d5, d8, List.drop_succ_cons, List.drop_zero]
  have NI := NI.kept hw
  have NR := NR.kept hw
  have c_NI := fun i => NI.cell i
  have f_NI := fun i => NI.free i
  have c_NR := fun i => NR.cell i
  have f_NR := fun i => NR.free i
  have c_N8 := fun i => N8.cell i
  have f_N8 := fun i => N8.free i
  clear hd hne hlo d0 d1 d2 d3 d4 d5 d8
  have hg : w.heap.size + 2 ≤ n8 := by simp at l8; omega
  simp only [Nat.zero_add, Nat.reduceAdd, d6, d7]
  clear d6 O6 d7
  go_wp2_with fail
  have P1 := N8.put 0 (iv b.n)
  have P2 := P1.put 1 (iv b.w)
  have P3 := P2.put 2 (.slice none 0 0)
  have P4 := P3.put 3 (.slice A7 b.ds.length p7)
  have OB : OutB w.heap.size n8 ins b ((((wt.setCell ⟨n8, 0, none⟩ (iv b.n)).setCell ⟨n8, 1, none⟩ (iv b.w)).setCell ⟨n8, 2, none⟩ (.slice none 0 0)).setCell ⟨n8, 3, none⟩ (.slice A7 b.ds.length p7)) 0 (.slice none 0 0) (.slice A7 b.ds.length p7) := by
    refine ⟨?_, ?_, by simpa using P4, hg, World.ownsRow_nil _ _ _ _, own_set (own_set (own_set (own_set O7 N8 (by decide)) P1 (by decide)) P2 (by decide)) P3 (by decide)⟩
    · rw [Hins.out]
      exact (((NI.far (p := ⟨n8, 0, none⟩) (by show w.heap.size ≠ n8; omega) _).far (p := ⟨n8, 1, none⟩) (by show w.heap.size ≠ n8; omega) _).far (p := ⟨n8, 2, none⟩) (by show w.heap.size ≠ n8; omega) _).far (p := ⟨n8, 3, none⟩) (by show w.heap.size ≠ n8; omega) _
    · exact (((NR.far (p := ⟨n8, 0, none⟩) (by show w.heap.size + 1 ≠ n8; omega) _).far (p := ⟨n8, 1, none⟩) (by show w.heap.size + 1 ≠ n8; omega) _).far (p := ⟨n8, 2, none⟩) (by show w.heap.size + 1 ≠ n8; omega) _).far (p := ⟨n8, 3, none⟩) (by show w.heap.size + 1 ≠ n8; omega) _
  have HO0 := Lib.hid OB
  have hp : w.heap.size ≤ n8 := by omega
  have HB1 := Lib.hid (up_put (up_put (up_put (up_put (up_later HB0.out hw) (p := ⟨n8, 0, none⟩) hp (iv b.n)) (p := ⟨n8, 1, none⟩) hp (iv b.w)) (p := ⟨n8, 2, none⟩) hp (.slice none 0 0)) (p := ⟨n8, 3, none⟩) hp (.slice A7 b.ds.length p7))
  clear OB P1 P2 P3 P4 NI NR N8 c_NI f_NI c_NR f_NR c_N8 f_N8 O7 hw l8 HB0 HD
  go_loopw [4] (fun q wr => ∃ k : Nat, k ≤ b.ks.length ∧ q = .int .i64 k ∧ ∃ u1, Hid (OutB w.heap.size n8 ins b wr k u1 (.slice A7 b.ds.length p7)) ∧ Hid (Below w.heap.size w wr)) (fun q _ => b.ks.length - (intOf q).toNat)
  case atStart => exact ⟨0, by omega, rfl, _, HO0.out, HB1.out⟩
  case round =>
    clear HO0 HB1
    obtain ⟨k, hk, rfl, u1, hO, hB⟩ := hrel
    have hin := hO.out.inb
    rw [Hins.out] at hin
    have c_in := fun i => hin.cell i
    have hout := hO.out.out
    have k0 : (0 : Int) ≤ (k : Int) := by omega
    have hszB := hB.out.size
    by_cases hlt : k < b.ks.length
    · obtain ⟨x, hx⟩ : ∃ x, b.ks[k]? = some x := ⟨_, List.getElem?_eq_getElem hlt⟩
      have HR := Lib.hid (HL.out.ks.kept hB.out)
      obtain ⟨b1, off, rfl, hb, _⟩ := HR.out.at rfl hx
      have Hx := Lib.hid hx
      have k1 : (k : Int) < (b.ks.length : Int) := by omega
      clear hx
      go_wp2_with fail
      apply wp_region_by 9 [(Fact.eq _), (Fact.eq _), (Fact.eq _), (Fact.eq _), (Fact.eq _), (Fact.eq _), (Fact.eq _), (Fact.eq _), (Fact.sl 1 78 #[iv x.m, iv x.a, iv x.s])]
      case hm => kernel_rfl
      case hB => kernel_rfl
      case hA => (intro vs; simp only [List.take_succ_cons, List.take_zero, putAll, if_true, Act.put, List.setIfInBounds_toArray, List.set_cons_zero, List.set_cons_succ]; exact rfl)
      case hstep =>
        intro vs
        refine And.intro (fun w hw hd => ?_) ?_
        · refine ite_yes rfl ?_
          simp only [Gives]
          go_simp
          exact ⟨Below.refl _ _, rfl, fun h => by cases h⟩
        refine And.intro (fun w hw hd => ?_) ?_
        · have d0 := hd 0 (by decide) rfl
          change vs 0 = _ at d0
          refine ite_yes rfl ?_
          have c_hin := fun i => (hin.kept hw).cell i
          have c_hout := fun i => (hout.kept hw).cell i
          simp only [Gives]
          go_simp
          exact ⟨Below.refl _ _, rfl, fun h => by cases h⟩
        refine And.intro (fun w hw hd => ?_) ?_
        · refine ite_yes rfl ?_
          simp only [Gives]
          go_simp
          exact ⟨Below.refl _ _, rfl, fun h => by cases h⟩
        refine And.intro (fun w hw hd => ?_) ?_
        · have d2 := hd 2 (by decide) rfl
          change vs 2 = _ at d2
          refine ite_yes rfl ?_
          have c_hin := fun i => (hin.kept hw).cell i
          have c_hout := fun i => (hout.kept hw).cell i
          simp only [Gives]
          go_simp
          exact ⟨Below.refl _ _, rfl, fun h => by cases h⟩
        refine And.intro (fun w hw hd => ?_) ?_
        · refine ite_yes rfl ?_
          simp only [Gives]
          go_simp
          exact ⟨Below.refl _ _, rfl, fun h => by cases h⟩
        refine And.intro (fun w hw hd => ?_) ?_
        · have d3 := hd 3 (by decide) rfl
          change vs 3 = _ at d3
          have d4 := hd 4 (by decide) rfl
          change vs 4 = _ at d4
          refine ite_yes rfl ?_
          simp only [Gives]
          go_simp
          exact ⟨Below.refl _ _, rfl, fun h => by cases h⟩
        refine And.intro (fun w hw hd => ?_) ?_
        · have d5 := hd 5 (by decide) rfl
          change vs 5 = _ at d5
          refine ite_yes rfl ?_
          have c_hin := fun i => (hin.kept hw).cell i
          have c_hout := fun i => (hout.kept hw).cell i
          have q0 : w.cell? ⟨b1, off + k * 3, none⟩ = some (.int .i64 x.m) := (HR.out.kept hw).cellAt Hx.out (j := 0) rfl
          have q1 : w.cell? ⟨b1, off + k * 3 + 1, none⟩ = some (.int .i64 x.a) := (HR.out.kept hw).cellAt Hx.out (j := 1) rfl
          have q2 : w.cell? ⟨b1, off + k * 3 + 2, none⟩ = some (.int .i64 x.s) := (HR.out.kept hw).cellAt Hx.out (j := 2) rfl
          simp only [Gives]
          go_simp
          exact ⟨Below.refl _ _, rfl, fun h => by cases h⟩
        refine And.intro (fun w hw hd => ?_) ?_
        · have d6 := hd 6 (by decide) rfl
          change vs 6 = _ at d6
          refine ite_yes rfl ?_
          simp only [Gives]
          go_simp
          refine (Key_any x _).mono ?_
          rintro e w1 ⟨rfl, hb⟩
          exact ⟨_, rfl, hb, rfl, fun h => by cases h⟩
        refine And.intro (fun w hw hd => ?_) ?_
        · have d7 := hd 7 (by decide) rfl
          change vs 7 = _ at d7
          refine ite_yes rfl ?_
          simp only [Gives]
          go_simp
          exact ⟨(Below.refl _ _).alloc (Nat.le_refl _) _, ⟨_, rfl, Box.new rfl⟩, fun h => by cases h⟩
        exact trivial
      intro vs wt hw hd hne hlo
      have d0 := hd 0 (by decide)
      change vs 0 = _ at d0
      have d1 := hd 1 (by decide)
      change vs 1 = _ at d1
      have d2 := hd 2 (by decide)
      change vs 2 = _ at d2
      have d3 := hd 3 (by decide)
      change vs 3 = _ at d3
      have d4 := hd 4 (by decide)
      change vs 4 = _ at d4
      have d5 := hd 5 (by decide)
      change vs 5 = _ at d5
      have d6 := hd 6 (by decide)
      change vs 6 = _ at d6
      have d7 := hd 7 (by decide)
      change vs 7 = _ at d7
      have d8 := hd 8 (by decide)
      obtain ⟨m8, d8, M8⟩ := d8
      simp only [d0, d1, d2, d3, d4, d5, d6, d7, List.drop_succ_cons, List.drop_zero]
      have hin := hin.kept hw
      have hout := hout.kept hw
      have c_hin := fun i => hin.cell i
      have f_hin := fun i => hin.free i
      have c_hout := fun i => hout.cell i
      have f_hout := fun i => hout.free i
      clear hd hne hlo d0 d1 d2 d3 d4 d5 d6 d7
      simp only [d8]
      have HOU := Lib.hid (hO.out.kept hw)
      go_wp2_with (at_builtin; refine wpList_append_own_at _ rfl _ _ 30 rfl w.heap.size 78 i1 (.agg #[iv 0, iv 0, iv 0]) 3 24 Try.underlying30 hi1 hz10 hz11 hz12 rfl (by decide) _ _ _ rfl HOU.out.o1 ⟨m8, 0, none⟩ 1 1 [iv x.m, iv x.a, iv x.s] rfl rfl (box_newsM M8) (by simp [Value.oneCell']) (by unfold maxLen; omega) (by omega) (by have := hw.size; omega) ?_; intro v' w2 hown' hgrow _ hat; obtain ⟨g', cap', rfl⟩ := ownsRow_succ hown'; have hbo := HOU.out.out.grown hgrow (box_not_own HOU.out.out (by decide) HOU.out.o1); have hc1 := fun i => hbo.cell i; have hf1 := fun i => hbo.free i)
      go_roundw
      case rel => exact ⟨k + 1, by omega, by go_num, _, HOU.out.put1 Hx.out hgrow hown', up_put ((up_later hB.out hw).grown hgrow (by have := hw.size; omega) fun g e => (HOU.out.o1.lt g e).1) (p := ⟨n8, 2, none⟩) (by simp; omega) _⟩
      case measure => simp [intOf]; omega
    · obtain rfl : k = b.ks.length := by omega
      have hres := hO.out.res
      obtain ⟨Au, pu, rfl⟩ := own_form' hO.out.o1
      have c_out := fun i => hout.cell i
      have c_res := fun i => hres.cell i
      have f_res := fun i => hres.free i
      have l_res := hres.lt
      go_wp2_with fail
      have o1 := hO.out.o1
      have o2 := hO.out.o2
      rw [List.take_length] at o1
      have R1 := hres.put 0 (iv b.n)
      have R2 := R1.put 1 (iv b.w)
      have R3 := R2.put 2 (.slice Au b.ks.length pu)
      have R4 := R3.put 3 (.slice A7 b.ds.length p7)
      have hp1 : w.heap.size ≤ w.heap.size + 1 := by omega
      refine bodyPost_ret (v := .agg #[iv b.n, iv b.w, .slice Au b.ks.length pu, .slice A7 b.ds.length p7]) (by
        have cN := fun i => R4.cell i
        simp [results, Try.results20, go_sem, cN]) rfl ⟨_, _, rfl, ⟨RowsAt.of_ownM (fun _ => rfl) (own_set (own_set (own_set (own_set o1 hres (by decide)) R1 (by decide)) R2 (by decide)) R3 (by decide)) rfl hn1, ints_of_own (own_set (own_set (own_set (own_set o2 hres (by decide)) R1 (by decide)) R2 (by decide)) R3 (by decide)) rfl hn2⟩, up_put (up_put (up_put (up_put hB.out (p := ⟨w.heap.size + 1, 0, none⟩) hp1 (iv b.n)) (p := ⟨w.heap.size + 1, 1, none⟩) hp1 (iv b.w)) (p := ⟨w.heap.size + 1, 2, none⟩) hp1 (.slice Au b.ks.length pu)) (p := ⟨w.heap.size + 1, 3, none⟩) hp1 (.slice A7 b.ds.length p7)⟩
end Go.Proofs.Ytkhfkmfofhnmdaa
