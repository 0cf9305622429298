/-
  WALK of the law's 'copied': a land in memory of its own. Conditions: lists have at most 1000 elements.
-/
import Derived.Test.YtojbdmdjepgpjaaAp
namespace Go.Proofs.Ytojbdmdjepgpjaa
open Go.RowKit

theorem info74 : (Try.prog.info? 74).map (fun i => (i.zero, i.size, i.bytes)) = some (some (.agg #[iv 0, iv 0, iv 0, iv 0]), 4, 32) := by kernel_rfl
theorem info79 : (Try.prog.info? 79).map (fun i => (i.zero, i.size, i.bytes)) = some (some (.agg #[iv 0, iv 0, iv 0, iv 0, iv 0, iv 0]), 6, 48) := by kernel_rfl
theorem info80 : (Try.prog.info? 80).map (fun i => (i.zero, i.size, i.bytes)) = some (some (.slice none 0 0), 1, 24) := by kernel_rfl
theorem info60 : (Try.prog.info? 60).map (fun i => (i.zero, i.size, i.bytes)) = some (some (.agg #[iv 0, iv 0, iv 0]), 3, 24) := by kernel_rfl
theorem info82 : (Try.prog.info? 82).map (fun i => (i.zero, i.size, i.bytes)) = some (some (.agg #[iv 0, iv 0, iv 0, iv 0, iv 0, iv 0, iv 0, iv 0]), 8, 64) := by kernel_rfl

/-- A land whose cases are still to come. -/
def Fact.land3 (n0 : Nat) (L : Ld) : Fact := ⟨fun v w => ∃ A1 m1 p1 A2 m2 p2 A4 m4 p4, v = .agg #[.slice A1 m1 p1, .slice A2 m2 p2, .slice none 0 0, .slice A4 m4 p4] ∧ w.ownsRow n0 74 4 (.slice A1 m1 p1) L.st.length (L.st.flatMap St.cells) ∧ w.ownsRow n0 79 6 (.slice A2 m2 p2) L.rg.length (L.rg.flatMap Wl.cells) ∧ w.ownsRow n0 60 3 (.slice A4 m4 p4) L.sn.length (L.sn.flatMap Sn.cells),
  fun _ _ _ ⟨A1, m1, p1, A2, m2, p2, A4, m4, p4, h, h1, h2, h4⟩ hb => ⟨A1, m1, p1, A2, m2, p2, A4, m4, p4, h, own_below h1 hb, own_below h2 hb, own_below h4 hb⟩, false, fun _ _ h => by cases h⟩

/-- The land as far as it is copied: so many cases. -/
structure CopK (n0 : Nat) (ins : Array Value) (g : Nat) (L : Ld) (w : World) (k : Nat) (u1 u2 u3 u4 : Value) (c : List (Value × List Cl)) : Prop where
  inb : Box w n0 27 ins
  res : Box w (n0 + 1) 27 #[.slice none 0 0, .slice none 0 0, .slice none 0 0, .slice none 0 0]
  out : Box w g 27 #[u1, u2, u3, u4]
  hg : n0 + 2 ≤ g
  o1 : w.ownsRow n0 74 4 u1 L.st.length (L.st.flatMap St.cells)
  o2 : w.ownsRow n0 79 6 u2 L.rg.length (L.rg.flatMap Wl.cells)
  o3 : w.ownsRow n0 80 1 u3 k (c.map (·.1))
  o4 : w.ownsRow n0 60 3 u4 L.sn.length (L.sn.flatMap Sn.cells)
  ec : c.map (·.2) = L.cs.take k
  each : ∀ x ∈ c, w.ownsRow n0 82 8 x.1 x.2.length (x.2.flatMap Cl.cells)
  apart : c.Pairwise fun x y => x.1.ownBlock = none ∨ x.1.ownBlock ≠ y.1.ownBlock
section
variable {n0 g : Nat} {ins : Array Value} {L : Ld} {w w2 : World} {k : Nat} {u1 u2 u3 u4 u' : Value} {c : List (Value × List Cl)}
theorem CopK.kept (h : CopK n0 ins g L w k u1 u2 u3 u4 c) (hb : Below w.heap.size w w2) : CopK n0 ins g L w2 k u1 u2 u3 u4 c :=
  ⟨h.inb.kept hb, h.res.kept hb, h.out.kept hb, h.hg, own_below h.o1 hb, own_below h.o2 hb, own_below h.o3 hb, own_below h.o4 hb, h.ec, fun x hx => own_below (h.each x hx) hb, h.apart⟩
theorem CopK.put {zs : List Cl} {z : Value} {B : Nat} (h : CopK n0 ins g L w k u1 u2 u3 u4 c) (hx : L.cs[k]? = some zs) (hn : n0 ≤ B) (hz : w.ownsRow B 82 8 z zs.length (zs.flatMap Cl.cells)) (hlt : ∀ x ∈ c, ∀ b, x.1.ownBlock = some b → b < B)
    (hg : w.grownBy w2 u3.ownBlock) (ho : w2.ownsRow n0 80 1 u' (k + 1) (c.map (·.1) ++ [z])) : CopK n0 ins g L (w2.setCell ⟨g, 2, none⟩ u') (k + 1) u1 u2 u' u4 (c ++ [(z, zs)]) := by
  have hb := h.out.grown hg (box_not_own h.out (by decide) h.o3)
  have hO := Only.set w2 g 2 u'
  have hgg := h.hg
  refine ⟨(h.inb.grown hg (box_not_own h.inb (by decide) h.o3)).only hO (by omega), (h.res.grown hg (box_not_own h.res (by decide) h.o3)).only hO (by omega), hb.put 2 u', h.hg, own_set (own_other h.o1 h.o3 (by decide) hg) hb (by decide), own_set (own_other h.o2 h.o3 (by decide) hg) hb (by decide), ?_, own_set (own_other h.o4 h.o3 (by decide) hg) hb (by decide), ?_, fun x hx => ?_, ?_⟩
  · have := own_set ho hb (t := 27) (i := 2) (u := u') (by decide)
    simpa using this
  · rw [List.take_add_one, hx, List.map_append, h.ec]
    rfl
  · rcases List.mem_append.1 hx with hx | hx
    · exact own_set (own_other (h.each x hx) h.o3 (by decide) hg) hb (by decide)
    · rw [List.mem_singleton.1 hx]
      exact own_set (own_other (own_mono hz hn) h.o3 (by decide) hg) hb (by decide)
  · rw [List.pairwise_append]
    refine ⟨h.apart, by simp, fun x hx y hy => ?_⟩
    rw [List.mem_singleton.1 hy]
    cases hxo : x.1.ownBlock with
    | none => exact .inl rfl
    | some b =>
      refine .inr fun e => ?_
      have h1 := hlt x hx b hxo
      have h2 := (hz.lt b e.symm).1
      omega
theorem CopK.cop (h : CopK n0 ins g L w L.cs.length u1 u2 u3 u4 c) : Cop 74 79 80 60 82 n0 L w u1 u2 u3 u4 c :=
  ⟨h.o1, h.o2, h.o3, h.o4, by have := h.ec; rwa [List.take_length] at this, h.each, h.apart⟩
theorem Cop.set {B i : Nat} {cs : Array Value} {u : Value} (h : Cop 74 79 80 60 82 n0 L w u1 u2 u3 u4 c) (hb : Box w B 27 cs) : Cop 74 79 80 60 82 n0 L (w.setCell ⟨B, i, none⟩ u) u1 u2 u3 u4 c :=
  ⟨own_set h.o1 hb (by decide), own_set h.o2 hb (by decide), own_set h.o3 hb (by decide), own_set h.o4 hb (by decide), h.ec, fun x hx => own_set (h.each x hx) hb (by decide), h.apart⟩
end

set_option maxRecDepth 100000 in
set_option maxHeartbeats 4000000 in
theorem copied_any (v1 v2 v3 v4 : Value) (L : Ld) (c : List (Value × List Cl)) (w : World) (hL : LandAt w v1 v2 v3 v4 L c) :
    Calls Try.prog 39 #[.agg #[v1, v2, v3, v4]] w fun e w' => ∃ u1 u2 u3 u4 c', e = .returned (.agg #[u1, u2, u3, u4]) ∧ Cop 74 79 80 60 82 w.heap.size L w' u1 u2 u3 u4 c' ∧ Below w.heap.size w w' := by
  obtain ⟨i1, hi1, hz10, hz11, hz12⟩ := info_parts info74
  obtain ⟨i2, hi2, hz20, hz21, hz22⟩ := info_parts info79
  obtain ⟨i3, hi3, hz30, hz31, hz32⟩ := info_parts info80
  obtain ⟨i4, hi4, hz40, hz41, hz42⟩ := info_parts info60
  obtain ⟨i5, hi5, hz50, hz51, hz52⟩ := info_parts info82
  have HL := Lib.hid hL
  obtain ⟨hn1, A1, cap1, rfl, _, _⟩ := hL.st.form
  obtain ⟨hn2, A2, cap2, rfl, _, _⟩ := hL.rg.form
  obtain ⟨hn3, A3, cap3, rfl, _, _⟩ := hL.cs.form
  obtain ⟨hn4, A4, cap4, rfl, _, _⟩ := hL.sn.form
  have Hcl := Lib.hid (cs_len hL.eq)
  clear hL
  go_enter Try.func39, Try.ntmps39
  go_upto_region 1 with fail
  have B1 := (Box.new (w := w) (t := 27) (cs := #[.slice A1 L.st.length cap1, .slice A2 L.rg.length cap2, .slice A3 c.length cap3, .slice A4 L.sn.length cap4]) rfl).alloc (.cells #[.slice none 0 0, .slice none 0 0, .slice none 0 0, .slice none 0 0] 27)
  have B2 := Box.new (w := w.alloc (.cells #[.slice A1 L.st.length cap1, .slice A2 L.rg.length cap2, .slice A3 c.length cap3, .slice A4 L.sn.length cap4] 27)) (g := w.heap.size + 1) (t := 27) (cs := #[.slice none 0 0, .slice none 0 0, .slice none 0 0, .slice none 0 0]) (by simp)
  have hB := up_alloc (up_alloc (up0 (w := w)) (.cells #[.slice A1 L.st.length cap1, .slice A2 L.rg.length cap2, .slice A3 c.length cap3, .slice A4 L.sn.length cap4] 27)) (.cells #[.slice none 0 0, .slice none 0 0, .slice none 0 0, .slice none 0 0] 27)
  have HLL := Lib.hid (HL.out.kept hB)
  have hszB := hB.size
  have HBB := Lib.hid hB
  clear hB
  apply wp_region_by 14 [(Fact.slF w.heap.size 0 74 #[]), (Fact.eq _), (Fact.eq _), (Fact.own w.heap.size 74 4 L.st.length (L.st.flatMap St.cells)), (Fact.slF w.heap.size 0 79 #[]), (Fact.eq _), (Fact.eq _), (Fact.own w.heap.size 79 6 L.rg.length (L.rg.flatMap Wl.cells)), (Fact.slF w.heap.size 0 60 #[]), (Fact.eq _), (Fact.eq _), (Fact.own w.heap.size 60 3 L.sn.length (L.sn.flatMap Sn.cells)), (Fact.land3 w.heap.size L), (Fact.box 27 _)]
  case hm => kernel_rfl
  case hB => kernel_rfl
  case hA => (intro vs; simp only [List.take_succ_cons, List.take_zero, putAll, if_true, Act.put, List.setIfInBounds_toArray, List.set_cons_zero, List.set_cons_succ]; exact rfl)
  case hstep =>
    intro vs
    refine And.intro (fun w hw hd => ?_) ?_
    · refine ite_yes rfl ?_
      simp only [Gives]
      go_simp
      exact ⟨(Below.refl _ _).alloc (Nat.le_refl _) _, ⟨_, rfl, Box.new rfl, Nat.le_trans hszB hw.size⟩, fun h => by cases h⟩
    refine And.intro (fun w hw hd => ?_) ?_
    · refine ite_yes rfl ?_
      simp only [Gives]
      go_simp
      exact ⟨Below.refl _ _, rfl, fun h => by cases h⟩
    refine And.intro (fun w hw hd => ?_) ?_
    · have d1 := hd 1 (by decide) rfl
      change vs 1 = _ at d1
      refine ite_yes rfl ?_
      have c_B1 := fun i => (B1.kept hw).cell i
      have c_B2 := fun i => (B2.kept hw).cell i
      simp only [Gives]
      go_simp
      exact ⟨Below.refl _ _, rfl, fun h => by cases h⟩
    refine And.intro (fun w hw hd => ?_) ?_
    · have d0 := hd 0 (by decide) rfl
      obtain ⟨n0, d0, N0, K0⟩ := d0
      have d2 := hd 2 (by decide) rfl
      change vs 2 = _ at d2
      refine ite_yes rfl ?_
      simp only [Gives]
      obtain ⟨Aa, ma, pa, wa, hra, hoa, hba⟩ := run_append_fresh (P := Try.prog) w _ 22 22 74 i1 _ 4 32 Try.underlying22 hi1 hz10 hz11 hz12 rfl (by decide) n0 N0 K0 St.cells L.st _ (HLL.out.st.kept hw) (fun _ => rfl) (by omega)
      refine gives_append (.tmp 5) (.tmp 7) 22 rfl _ _ _ ?_ ?_ hra ⟨hba, ⟨_, _, _, rfl, hoa⟩, fun h => by cases h⟩
      all_goals (go_simp)
    refine And.intro (fun w hw hd => ?_) ?_
    · refine ite_yes rfl ?_
      simp only [Gives]
      go_simp
      exact ⟨(Below.refl _ _).alloc (Nat.le_refl _) _, ⟨_, rfl, Box.new rfl, Nat.le_trans hszB hw.size⟩, fun h => by cases h⟩
    refine And.intro (fun w hw hd => ?_) ?_
    · refine ite_yes rfl ?_
      simp only [Gives]
      go_simp
      exact ⟨Below.refl _ _, rfl, fun h => by cases h⟩
    refine And.intro (fun w hw hd => ?_) ?_
    · have d5 := hd 5 (by decide) rfl
      change vs 5 = _ at d5
      refine ite_yes rfl ?_
      have c_B1 := fun i => (B1.kept hw).cell i
      have c_B2 := fun i => (B2.kept hw).cell i
      simp only [Gives]
      go_simp
      exact ⟨Below.refl _ _, rfl, fun h => by cases h⟩
    refine And.intro (fun w hw hd => ?_) ?_
    · have d4 := hd 4 (by decide) rfl
      obtain ⟨n4, d4, N4, K4⟩ := d4
      have d6 := hd 6 (by decide) rfl
      change vs 6 = _ at d6
      refine ite_yes rfl ?_
      simp only [Gives]
      obtain ⟨Aa, ma, pa, wa, hra, hoa, hba⟩ := run_append_fresh (P := Try.prog) w _ 23 23 79 i2 _ 6 48 Try.underlying23 hi2 hz20 hz21 hz22 rfl (by decide) n4 N4 K4 Wl.cells L.rg _ (HLL.out.rg.kept hw) (fun _ => rfl) (by omega)
      refine gives_append (.tmp 9) (.tmp 11) 23 rfl _ _ _ ?_ ?_ hra ⟨hba, ⟨_, _, _, rfl, hoa⟩, fun h => by cases h⟩
      all_goals (go_simp)
    refine And.intro (fun w hw hd => ?_) ?_
    · refine ite_yes rfl ?_
      simp only [Gives]
      go_simp
      exact ⟨(Below.refl _ _).alloc (Nat.le_refl _) _, ⟨_, rfl, Box.new rfl, Nat.le_trans hszB hw.size⟩, fun h => by cases h⟩
    refine And.intro (fun w hw hd => ?_) ?_
    · refine ite_yes rfl ?_
      simp only [Gives]
      go_simp
      exact ⟨Below.refl _ _, rfl, fun h => by cases h⟩
    refine And.intro (fun w hw hd => ?_) ?_
    · have d9 := hd 9 (by decide) rfl
      change vs 9 = _ at d9
      refine ite_yes rfl ?_
      have c_B1 := fun i => (B1.kept hw).cell i
      have c_B2 := fun i => (B2.kept hw).cell i
      simp only [Gives]
      go_simp
      exact ⟨Below.refl _ _, rfl, fun h => by cases h⟩
    refine And.intro (fun w hw hd => ?_) ?_
    · have d8 := hd 8 (by decide) rfl
      obtain ⟨n8, d8, N8, K8⟩ := d8
      have d10 := hd 10 (by decide) rfl
      change vs 10 = _ at d10
      refine ite_yes rfl ?_
      simp only [Gives]
      obtain ⟨Aa, ma, pa, wa, hra, hoa, hba⟩ := run_append_fresh (P := Try.prog) w _ 25 25 60 i4 _ 3 24 Try.underlying25 hi4 hz40 hz41 hz42 rfl (by decide) n8 N8 K8 Sn.cells L.sn _ (HLL.out.sn.kept hw) (fun _ => rfl) (by omega)
      refine gives_append (.tmp 13) (.tmp 15) 25 rfl _ _ _ ?_ ?_ hra ⟨hba, ⟨_, _, _, rfl, hoa⟩, fun h => by cases h⟩
      all_goals (go_simp)
    refine And.intro (fun w hw hd => ?_) ?_
    · have d3 := hd 3 (by decide) rfl
      obtain ⟨A3', m3, p3, e3, d3⟩ := d3
      have d7 := hd 7 (by decide) rfl
      obtain ⟨A7, m7, p7, e7, d7⟩ := d7
      have d11 := hd 11 (by decide) rfl
      obtain ⟨A11, m11, p11, e11, d11⟩ := d11
      refine ite_yes rfl ?_
      simp only [Gives]
      simp only [e3, e7, e11]
      go_simp
      exact ⟨Below.refl _ _, ⟨_, _, _, _, _, _, _, _, _, rfl, by rw [← e3]; exact d3, by rw [← e7]; exact d7, by rw [← e11]; exact d11⟩, fun h => by cases h⟩
    refine And.intro (fun w hw hd => ?_) ?_
    · refine ite_yes rfl ?_
      simp only [Gives]
      go_simp
      exact ⟨(Below.refl _ _).alloc (Nat.le_refl _) _, ⟨_, rfl, Box.new rfl⟩, fun _ => Nat.le_refl _⟩
    exact trivial
  intro vs wt hw hd hne hlo
  have d0 := hd 0 (by decide)
  obtain ⟨n0, d0, N0, K0⟩ := d0
  have d1 := hd 1 (by decide)
  change vs 1 = _ at d1
  have d2 := hd 2 (by decide)
  change vs 2 = _ at d2
  have d3 := hd 3 (by decide)
  obtain ⟨A3', m3, p3, e3, d3⟩ := d3
  have d4 := hd 4 (by decide)
  obtain ⟨n4, d4, N4, K4⟩ := d4
  have d5 := hd 5 (by decide)
  change vs 5 = _ at d5
  have d6 := hd 6 (by decide)
  change vs 6 = _ at d6
  have d7 := hd 7 (by decide)
  obtain ⟨A7, m7, p7, e7, d7⟩ := d7
  have d8 := hd 8 (by decide)
  obtain ⟨n8, d8, N8, K8⟩ := d8
  have d9 := hd 9 (by decide)
  change vs 9 = _ at d9
  have d10 := hd 10 (by decide)
  change vs 10 = _ at d10
  have d11 := hd 11 (by decide)
  obtain ⟨A11, m11, p11, e11, d11⟩ := d11
  have d12 := hd 12 (by decide)
  obtain ⟨F1, m1, p1, F2, m2, p2, F4, m4, p4, d12, O1, O2, O4⟩ := d12
  obtain ⟨n13, d13, N13⟩ := hd 13 (by decide)
  have l13 := hlo 13 (by decide) rfl
  simp only [d13, blk] at l13
  simp only [d1, d2, d5, d6, d9, d10, d13, List.drop_succ_cons, List.drop_zero]
  have B1 := B1.kept hw
  have B2 := B2.kept hw
  have c_B1 := fun i => B1.cell i
  have f_B1 := fun i => B1.free i
  have c_B2 := fun i => B2.cell i
  have f_B2 := fun i => B2.free i
  have c_N13 := fun i => N13.cell i
  have f_N13 := fun i => N13.free i
  clear hd hne hlo d1 d2 d5 d6 d9 d10 d13
  simp only [d12]
  have hl13 := N13.lt
  go_wp2_with fail
  have O0 : CopK w.heap.size #[.slice A1 L.st.length cap1, .slice A2 L.rg.length cap2, .slice A3 c.length cap3, .slice A4 L.sn.length cap4] n13 L ((((wt.setCell ⟨n13, 0, none⟩ (.slice F1 m1 p1)).setCell ⟨n13, 1, none⟩ (.slice F2 m2 p2)).setCell ⟨n13, 2, none⟩ (.slice none 0 0)).setCell ⟨n13, 3, none⟩ (.slice F4 m4 p4)) 0 (.slice F1 m1 p1) (.slice F2 m2 p2) (.slice none 0 0) (.slice F4 m4 p4) [] := by
    have hlo : w.heap.size + 2 ≤ n13 := by have := l13; simp at this; omega
    have M0 := N13.put 0 (.slice F1 m1 p1)
    have M1 := M0.put 1 (.slice F2 m2 p2)
    have M2 := M1.put 2 (.slice none 0 0)
    have hO : Only n13 wt ((((wt.setCell ⟨n13, 0, none⟩ (.slice F1 m1 p1)).setCell ⟨n13, 1, none⟩ (.slice F2 m2 p2)).setCell ⟨n13, 2, none⟩ (.slice none 0 0)).setCell ⟨n13, 3, none⟩ (.slice F4 m4 p4)) := (((Only.set _ _ _ _).trans (Only.set _ _ _ _)).trans (Only.set _ _ _ _)).trans (Only.set _ _ _ _)
    exact ⟨B1.only hO (by omega), B2.only hO (by omega), Box.put4 N13, hlo,
      own_set (own_set (own_set (own_set O1 N13 (by decide)) M0 (by decide)) M1 (by decide)) M2 (by decide),
      own_set (own_set (own_set (own_set O2 N13 (by decide)) M0 (by decide)) M1 (by decide)) M2 (by decide), World.ownsRow_nil _ _ _ _,
      own_set (own_set (own_set (own_set O4 N13 (by decide)) M0 (by decide)) M1 (by decide)) M2 (by decide), by simp, (fun x hx => by cases hx), List.Pairwise.nil⟩
  have HO0 := Lib.hid O0
  have HB0 := Lib.hid (show Below w.heap.size w ((((wt.setCell ⟨n13, 0, none⟩ (.slice F1 m1 p1)).setCell ⟨n13, 1, none⟩ (.slice F2 m2 p2)).setCell ⟨n13, 2, none⟩ (.slice none 0 0)).setCell ⟨n13, 3, none⟩ (.slice F4 m4 p4)) from by
    have hlo : w.heap.size ≤ n13 := by have := l13; simp at this; omega
    exact up_put (up_put (up_put (up_put (up_later HBB.out hw) (p := ⟨n13, 0, none⟩) hlo _) (p := ⟨n13, 1, none⟩) hlo _) (p := ⟨n13, 2, none⟩) hlo _) (p := ⟨n13, 3, none⟩) hlo _)
  clear O0 N13 B1 B2 N0 N4 N8 O1 O2 O4 c_B1 c_B2 f_B1 f_B2 c_N13 f_N13 hw l13 d3 d7 d11 K0 K4 K8 d0 d4 d8 e3 e7 e11 d12
  simp only [Nat.zero_add, Nat.reduceAdd]
  go_loopw [4] (fun q wr => ∃ k : Nat, k ≤ c.length ∧ q = .int .i64 k ∧ ∃ u3 c', Hid (CopK w.heap.size #[.slice A1 L.st.length cap1, .slice A2 L.rg.length cap2, .slice A3 c.length cap3, .slice A4 L.sn.length cap4] n13 L wr k (.slice F1 m1 p1) (.slice F2 m2 p2) u3 (.slice F4 m4 p4) c') ∧ Hid (Below w.heap.size w wr)) (fun q _ => c.length - (intOf q).toNat)
  case atStart => exact ⟨0, by omega, rfl, _, _, HO0.out, HB0.out⟩
  case round =>
    clear HO0 HB0
    obtain ⟨k, hk, rfl, u3, c', hO, hB⟩ := hrel
    have hin := hO.out.inb
    have c_in := fun i => hin.cell i
    have k0 : (0 : Int) ≤ (k : Int) := by omega
    by_cases hlt : k < c.length
    · obtain ⟨x, hx⟩ : ∃ x, c[k]? = some x := ⟨_, List.getElem?_eq_getElem hlt⟩
      have HR := Lib.hid (HL.out.cs.kept hB.out)
      have HE := Lib.hid ((HL.out.each x (List.mem_of_getElem? hx)).kept hB.out)
      have hxl := HE.out.form.1
      have hLk : L.cs[k]? = some x.2 := by rw [← HL.out.eq]; simp [hx]
      have HLk := Lib.hid hLk
      obtain ⟨b, off, rfl, hb, _⟩ := HR.out.at rfl hx
      have Hx := Lib.hid hx
      have k1 : (k : Int) < (c.length : Int) := by omega
      have hout := hO.out.out
      have hszB := hB.out.size
      clear hx hLk
      go_wp2_with fail
      apply wp_region_by 10 [(Fact.eq _), (Fact.eq _), (Fact.slF wr.heap.size 0 82 #[]), (Fact.eq _), (Fact.eq _), (Fact.eq _), (Fact.eq _), (Fact.eq _), (Fact.own wr.heap.size 82 8 x.2.length (x.2.flatMap Cl.cells)), (Fact.so 80 wr.heap.size 82 8 x.2.length (x.2.flatMap Cl.cells))]
      case hm => kernel_rfl
      case hB => kernel_rfl
      case hA => (intro vs; simp only [List.take_succ_cons, List.take_zero, putAll, if_true, Act.put, List.setIfInBounds_toArray, List.set_cons_zero, List.set_cons_succ]; exact rfl)
      case hstep =>
        intro vs
        refine And.intro (fun w hw hd => ?_) ?_
        · refine ite_yes rfl ?_
          simp only [Gives]
          go_simp
          exact ⟨Below.refl _ _, rfl, fun h => by cases h⟩
        refine And.intro (fun w hw hd => ?_) ?_
        · have d0 := hd 0 (by decide) rfl
          change vs 0 = _ at d0
          refine ite_yes rfl ?_
          have c_hin := fun i => (hin.kept hw).cell i
          have c_hout := fun i => (hout.kept hw).cell i
          simp only [Gives]
          go_simp
          exact ⟨Below.refl _ _, rfl, fun h => by cases h⟩
        refine And.intro (fun w hw hd => ?_) ?_
        · refine ite_yes rfl ?_
          simp only [Gives]
          go_simp
          exact ⟨(Below.refl _ _).alloc (Nat.le_refl _) _, ⟨_, rfl, Box.new rfl, hw.size⟩, fun h => by cases h⟩
        refine And.intro (fun w hw hd => ?_) ?_
        · refine ite_yes rfl ?_
          simp only [Gives]
          go_simp
          exact ⟨Below.refl _ _, rfl, fun h => by cases h⟩
        refine And.intro (fun w hw hd => ?_) ?_
        · have d3 := hd 3 (by decide) rfl
          change vs 3 = _ at d3
          refine ite_yes rfl ?_
          have c_hin := fun i => (hin.kept hw).cell i
          have c_hout := fun i => (hout.kept hw).cell i
          simp only [Gives]
          go_simp
          exact ⟨Below.refl _ _, rfl, fun h => by cases h⟩
        refine And.intro (fun w hw hd => ?_) ?_
        · refine ite_yes rfl ?_
          simp only [Gives]
          go_simp
          exact ⟨Below.refl _ _, rfl, fun h => by cases h⟩
        refine And.intro (fun w hw hd => ?_) ?_
        · have d4 := hd 4 (by decide) rfl
          change vs 4 = _ at d4
          have d5 := hd 5 (by decide) rfl
          change vs 5 = _ at d5
          refine ite_yes rfl ?_
          simp only [Gives]
          go_simp
          exact ⟨Below.refl _ _, rfl, fun h => by cases h⟩
        refine And.intro (fun w hw hd => ?_) ?_
        · have d6 := hd 6 (by decide) rfl
          change vs 6 = _ at d6
          refine ite_yes rfl ?_
          have c_hin := fun i => (hin.kept hw).cell i
          have c_hout := fun i => (hout.kept hw).cell i
          have q0 : w.cell? ⟨b, off + k, none⟩ = some x.1 := by simpa using (HR.out.kept hw).cellAt Hx.out (j := 0) rfl
          simp only [Gives]
          go_simp
          exact ⟨Below.refl _ _, rfl, fun h => by cases h⟩
        refine And.intro (fun w hw hd => ?_) ?_
        · have d2 := hd 2 (by decide) rfl
          obtain ⟨n2, d2, N2, K2⟩ := d2
          have d7 := hd 7 (by decide) rfl
          change vs 7 = _ at d7
          refine ite_yes rfl ?_
          simp only [Gives]
          obtain ⟨Aa, ma, pa, wa, hra, hoa, hba⟩ := run_append_fresh (P := Try.prog) w _ 80 80 82 i5 _ 8 64 Try.underlying80 hi5 hz50 hz51 hz52 rfl (by decide) n2 N2 K2 Cl.cells x.2 _ (HE.out.kept hw) (fun _ => rfl) (by omega)
          refine gives_append (.tmp 27) (.tmp 32) 80 rfl _ _ _ ?_ ?_ hra ⟨hba, ⟨_, _, _, rfl, hoa⟩, fun h => by cases h⟩
          all_goals (go_simp)
        refine And.intro (fun w hw hd => ?_) ?_
        · have d8 := hd 8 (by decide) rfl
          obtain ⟨A8, m8, p8, e8, d8⟩ := d8
          refine ite_yes rfl ?_
          simp only [Gives]
          simp only [e8]
          go_simp
          exact ⟨(Below.refl _ _).alloc (Nat.le_refl _) _, ⟨_, _, rfl, Box.new rfl, by rw [← e8]; exact own_below d8 (up_alloc up0 _)⟩, fun h => by cases h⟩
        exact trivial
      intro vs wt hw hd hne hlo
      have d0 := hd 0 (by decide)
      change vs 0 = _ at d0
      have d1 := hd 1 (by decide)
      change vs 1 = _ at d1
      have d2 := hd 2 (by decide)
      obtain ⟨n2, d2, N2, K2⟩ := d2
      have d3 := hd 3 (by decide)
      change vs 3 = _ at d3
      have d4 := hd 4 (by decide)
      change vs 4 = _ at d4
      have d5 := hd 5 (by decide)
      change vs 5 = _ at d5
      have d6 := hd 6 (by decide)
      change vs 6 = _ at d6
      have d7 := hd 7 (by decide)
      change vs 7 = _ at d7
      have d8 := hd 8 (by decide)
      obtain ⟨A8, m8, p8, e8, d8⟩ := d8
      have d9 := hd 9 (by decide)
      obtain ⟨n9, z9, d9, N9, Z9⟩ := d9
      simp only [d0, d1, d3, d4, d5, d6, d7, List.drop_succ_cons, List.drop_zero]
      have hin := hin.kept hw
      have hout := hout.kept hw
      have c_hin := fun i => hin.cell i
      have f_hin := fun i => hin.free i
      have c_hout := fun i => hout.cell i
      have f_hout := fun i => hout.free i
      clear hd hne hlo d0 d1 d3 d4 d5 d6 d7
      simp only [d9]
      have HOU := Lib.hid (hO.out.kept hw)
      go_wp2_with (at_builtin; refine wpList_append_own_at _ rfl _ _ 24 rfl w.heap.size 80 i3 (.slice none 0 0) 1 24 Try.underlying24 hi3 hz30 hz31 hz32 rfl (by decide) _ _ _ rfl HOU.out.o3 ⟨n9, 0, none⟩ 1 1 [z9] rfl rfl (box_newsM N9) (by obtain ⟨Az, mz, pz, ez⟩ := own_form Z9; simp [ez, Value.oneCell']) (by unfold maxLen; omega) (by omega) (by have := hw.size; omega) ?_; intro v' w2 hown' hgrow _ hat; obtain ⟨g', cap', rfl⟩ := ownsRow_succ hown'; have hbo := HOU.out.out.grown hgrow (box_not_own HOU.out.out (by decide) HOU.out.o3); have hc1 := fun i => hbo.cell i; have hf1 := fun i => hbo.free i)
      have hgg := hO.out.hg
      exact ⟨⟨k + 1, by omega, by go_num, _, _, HOU.out.put HLk.out hszB Z9 (fun y hy b hb => ((hO.out.each y hy).lt b hb).2) hgrow hown', up_put ((up_later hB.out hw).grown hgrow (by have := hw.size; omega) fun g e => (HOU.out.o3.lt g e).1) (p := ⟨n13, 2, none⟩) (by simp; omega) _⟩, by simp [intOf]; omega⟩
    · obtain rfl : k = c.length := by omega
      have hout := hO.out.out
      have c_out := fun i => hout.cell i
      have hres := hO.out.res
      have c_res := fun i => hres.cell i
      have f_res := fun i => hres.free i
      have hls := hres.lt
      have hO4 := hO.out
      rw [Hcl.out] at hO4
      have hF := hO4.cop
      obtain ⟨F3, m3', p3', rfl⟩ := own_form hF.o3
      have HF := Lib.hid hF
      clear hF hO4
      go_wp2_with fail
      have R0 := hres.put 0 (.slice F1 m1 p1)
      have R1 := R0.put 1 (.slice F2 m2 p2)
      have R2 := R1.put 2 (.slice F3 m3' p3')
      have N := Box.put4 (u0 := .slice F1 m1 p1) (u1 := .slice F2 m2 p2) (u2 := .slice F3 m3' p3') (u3 := .slice F4 m4 p4) hres
      have G := (((HF.out.set hres (i := 0) (u := .slice F1 m1 p1)).set R0 (i := 1) (u := .slice F2 m2 p2)).set R1 (i := 2) (u := .slice F3 m3' p3')).set R2 (i := 3) (u := .slice F4 m4 p4)
      refine bodyPost_ret (v := .agg #[.slice F1 m1 p1, .slice F2 m2 p2, .slice F3 m3' p3', .slice F4 m4 p4]) (by
        have cN := fun i => N.cell i
        simp [results, Try.results39, go_sem, cN]) rfl ⟨_, _, _, _, c', rfl, G, ?_⟩
      exact up_put (up_put (up_put (up_put hB.out (p := ⟨w.heap.size + 1, 0, none⟩) (by simp) _) (p := ⟨w.heap.size + 1, 1, none⟩) (by simp) _) (p := ⟨w.heap.size + 1, 2, none⟩) (by simp) _) (p := ⟨w.heap.size + 1, 3, none⟩) (by simp) _

end Go.Proofs.Ytojbdmdjepgpjaa
