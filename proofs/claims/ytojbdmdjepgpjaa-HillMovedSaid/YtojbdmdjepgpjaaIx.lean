/-
  WALK of '(*site).line'. Conditions: both stations are there.
  WALKS of slices.IndexFunc and slices.ContainsFunc over walls, asked whether a wall blocks a line. Conditions: places from 0 to 100, heights from 0 to 1000.
  PLAIN: what a land without an error, and a call without one, owe.
-/
import Derived.Test.YtojbdmdjepgpjaaOp
import Derived.Test.YtojbdmdjepgpjaaBk
namespace Go.Proofs.Ytojbdmdjepgpjaa
open Go.RowKit

theorem RowsAt.cellAt {α : Type} {w : World} {b off n cap sz : Nat} {cells : α → List Value} {l : List α} (h : RowsAt w (.slice (some ⟨b, off, none⟩) n cap) sz cells l) {i : Nat} {x : α} (hx : l[i]? = some x) {j : Nat} {u : Value} (hu : (cells x)[j]? = some u) :
    w.cell? ⟨b, off + i * sz + j, none⟩ = some u := by
  obtain ⟨b', off', e, _, hc⟩ := h.at rfl hx
  simp only [Option.some.injEq, Addr.mk.injEq, and_true] at e
  obtain ⟨rfl, rfl⟩ := e
  exact hc j u hu

set_option maxRecDepth 100000 in
set_option maxHeartbeats 2000000 in
theorem line_any (gs gm i j : Nat) (s t : St) (v1 v2 v3 v4 : Value) (L : Ld) (c : List (Value × List Cl)) (m : List ((Int × Int) × Value)) (w : World) (hS : SiteAt w gs gm v1 v2 v3 v4 L c m) (hi : L.st[i]? = some s) (hj : L.st[j]? = some t) :
    Calls Try.prog 62 #[.pointer (some ⟨gs, 0, none⟩), .int .i64 i, .int .i64 j] w fun e w' =>
      e = .returned (.agg #[.int .i64 s.x, .int .i64 s.y, .int .i64 s.z, .int .i64 s.m, .int .i64 t.x, .int .i64 t.y, .int .i64 t.z, .int .i64 t.m]) ∧ Below w.heap.size w w' := by
  obtain ⟨hn1, A1, cap1, rfl, _, _⟩ := hS.land.st.form
  have hB := hS.box
  have hR := hS.land.st
  obtain ⟨b, off, rfl, hb, _⟩ := hR.at rfl hi
  have hil : i < L.st.length := (List.getElem?_eq_some_iff.1 hi).1
  have hjl : j < L.st.length := (List.getElem?_eq_some_iff.1 hj).1
  have Hi := Lib.hid hi
  have Hj := Lib.hid hj
  have HR := Lib.hid hR
  clear hi hj hS hR
  have hi0 : (0 : Int) ≤ (i : Int) := by omega
  have hi1 : (i : Int) < (L.st.length : Int) := by omega
  have hj0 : (0 : Int) ≤ (j : Int) := by omega
  have hj1 : (j : Int) < (L.st.length : Int) := by omega
  go_enter Try.func62, Try.ntmps62
  go_wp2
  have hB := hB.alloc (.cells #[iv 0, iv 0, iv 0, iv 0, iv 0, iv 0, iv 0, iv 0] 111)
  have HR := Lib.hid (HR.out.kept (up_alloc up0 (.cells #[iv 0, iv 0, iv 0, iv 0, iv 0, iv 0, iv 0, iv 0] 111)))
  have B6 := Box.new (w := w) (t := 111) (cs := #[iv 0, iv 0, iv 0, iv 0, iv 0, iv 0, iv 0, iv 0]) rfl
  apply wp_region_by 17 [(Fact.eq _), (Fact.eq _), (Fact.eq _), (Fact.eq _), (Fact.eq _), (Fact.eq _), (Fact.eq _), (Fact.eq _), (Fact.eq _), (Fact.eq _), (Fact.eq _), (Fact.eq _), (Fact.eq _), (Fact.eq _), (Fact.eq _), (Fact.eq _), (Fact.eq _)]
  case hm => kernel_rfl
  case hB => kernel_rfl
  case hA => (intro vs; simp only [List.take_succ_cons, List.take_zero, putAll, if_true, Act.put, List.setIfInBounds_toArray, List.set_cons_zero, List.set_cons_succ]; exact rfl)
  case hstep =>
    intro vs
    refine And.intro (fun w hw hd => ?_) ?_
    · refine ite_yes rfl ?_
      simp only [Gives]
      go_simp
      exact ⟨Below.refl _ _, rfl, fun h => by cases h⟩
    refine And.intro (fun w hw hd => ?_) ?_
    · have d0 := hd 0 (by decide) rfl
      change vs 0 = _ at d0
      refine ite_yes rfl ?_
      simp only [Gives]
      go_simp
      exact ⟨Below.refl _ _, rfl, fun h => by cases h⟩
    refine And.intro (fun w hw hd => ?_) ?_
    · have d1 := hd 1 (by decide) rfl
      change vs 1 = _ at d1
      refine ite_yes rfl ?_
      simp only [Gives]
      go_simp
      exact ⟨Below.refl _ _, rfl, fun h => by cases h⟩
    refine And.intro (fun w hw hd => ?_) ?_
    · have d2 := hd 2 (by decide) rfl
      change vs 2 = _ at d2
      refine ite_yes rfl ?_
      simp only [Gives]
      go_simp
      exact ⟨Below.refl _ _, rfl, fun h => by cases h⟩
    refine And.intro (fun w hw hd => ?_) ?_
    · have d3 := hd 3 (by decide) rfl
      change vs 3 = _ at d3
      refine ite_yes rfl ?_
      have c_hB := fun i => (hB.kept hw).cell i
      have c_B6 := fun i => (B6.kept hw).cell i
      simp only [Gives]
      go_simp
      exact ⟨Below.refl _ _, rfl, fun h => by cases h⟩
    refine And.intro (fun w hw hd => ?_) ?_
    · refine ite_yes rfl ?_
      simp only [Gives]
      go_simp
      exact ⟨Below.refl _ _, rfl, fun h => by cases h⟩
    refine And.intro (fun w hw hd => ?_) ?_
    · have d4 := hd 4 (by decide) rfl
      change vs 4 = _ at d4
      have d5 := hd 5 (by decide) rfl
      change vs 5 = _ at d5
      refine ite_yes rfl ?_
      simp only [Gives]
      go_simp
      exact ⟨Below.refl _ _, rfl, fun h => by cases h⟩
    refine And.intro (fun w hw hd => ?_) ?_
    · have d6 := hd 6 (by decide) rfl
      change vs 6 = _ at d6
      refine ite_yes rfl ?_
      have c_hB := fun i => (hB.kept hw).cell i
      have c_B6 := fun i => (B6.kept hw).cell i
      have p0 : w.cell? ⟨b, off + i * 4, none⟩ = some (.int .i64 s.x) := (HR.out.kept hw).cellAt Hi.out (j := 0) rfl
      have p1 : w.cell? ⟨b, off + i * 4 + 1, none⟩ = some (.int .i64 s.y) := (HR.out.kept hw).cellAt Hi.out (j := 1) rfl
      have p2 : w.cell? ⟨b, off + i * 4 + 2, none⟩ = some (.int .i64 s.z) := (HR.out.kept hw).cellAt Hi.out (j := 2) rfl
      have p3 : w.cell? ⟨b, off + i * 4 + 3, none⟩ = some (.int .i64 s.m) := (HR.out.kept hw).cellAt Hi.out (j := 3) rfl
      have u0 : w.cell? ⟨b, off + j * 4, none⟩ = some (.int .i64 t.x) := (HR.out.kept hw).cellAt Hj.out (j := 0) rfl
      have u1 : w.cell? ⟨b, off + j * 4 + 1, none⟩ = some (.int .i64 t.y) := (HR.out.kept hw).cellAt Hj.out (j := 1) rfl
      have u2 : w.cell? ⟨b, off + j * 4 + 2, none⟩ = some (.int .i64 t.z) := (HR.out.kept hw).cellAt Hj.out (j := 2) rfl
      have u3 : w.cell? ⟨b, off + j * 4 + 3, none⟩ = some (.int .i64 t.m) := (HR.out.kept hw).cellAt Hj.out (j := 3) rfl
      simp only [Gives]
      go_simp
      exact ⟨Below.refl _ _, rfl, fun h => by cases h⟩
    refine And.intro (fun w hw hd => ?_) ?_
    · refine ite_yes rfl ?_
      simp only [Gives]
      go_simp
      exact ⟨Below.refl _ _, rfl, fun h => by cases h⟩
    refine And.intro (fun w hw hd => ?_) ?_
    · have d8 := hd 8 (by decide) rfl
      change vs 8 = _ at d8
      refine ite_yes rfl ?_
      simp only [Gives]
      go_simp
      exact ⟨Below.refl _ _, rfl, fun h => by cases h⟩
    refine And.intro (fun w hw hd => ?_) ?_
    · have d9 := hd 9 (by decide) rfl
      change vs 9 = _ at d9
      refine ite_yes rfl ?_
      simp only [Gives]
      go_simp
      exact ⟨Below.refl _ _, rfl, fun h => by cases h⟩
    refine And.intro (fun w hw hd => ?_) ?_
    · have d10 := hd 10 (by decide) rfl
      change vs 10 = _ at d10
      refine ite_yes rfl ?_
      simp only [Gives]
      go_simp
      exact ⟨Below.refl _ _, rfl, fun h => by cases h⟩
    refine And.intro (fun w hw hd => ?_) ?_
    · have d11 := hd 11 (by decide) rfl
      change vs 11 = _ at d11
      refine ite_yes rfl ?_
      have c_hB := fun i => (hB.kept hw).cell i
      have c_B6 := fun i => (B6.kept hw).cell i
      simp only [Gives]
      go_simp
      exact ⟨Below.refl _ _, rfl, fun h => by cases h⟩
    refine And.intro (fun w hw hd => ?_) ?_
    · refine ite_yes rfl ?_
      simp only [Gives]
      go_simp
      exact ⟨Below.refl _ _, rfl, fun h => by cases h⟩
    refine And.intro (fun w hw hd => ?_) ?_
    · have d12 := hd 12 (by decide) rfl
      change vs 12 = _ at d12
      have d13 := hd 13 (by decide) rfl
      change vs 13 = _ at d13
      refine ite_yes rfl ?_
      simp only [Gives]
      go_simp
      exact ⟨Below.refl _ _, rfl, fun h => by cases h⟩
    refine And.intro (fun w hw hd => ?_) ?_
    · have d14 := hd 14 (by decide) rfl
      change vs 14 = _ at d14
      refine ite_yes rfl ?_
      have c_hB := fun i => (hB.kept hw).cell i
      have c_B6 := fun i => (B6.kept hw).cell i
      have p0 : w.cell? ⟨b, off + i * 4, none⟩ = some (.int .i64 s.x) := (HR.out.kept hw).cellAt Hi.out (j := 0) rfl
      have p1 : w.cell? ⟨b, off + i * 4 + 1, none⟩ = some (.int .i64 s.y) := (HR.out.kept hw).cellAt Hi.out (j := 1) rfl
      have p2 : w.cell? ⟨b, off + i * 4 + 2, none⟩ = some (.int .i64 s.z) := (HR.out.kept hw).cellAt Hi.out (j := 2) rfl
      have p3 : w.cell? ⟨b, off + i * 4 + 3, none⟩ = some (.int .i64 s.m) := (HR.out.kept hw).cellAt Hi.out (j := 3) rfl
      have u0 : w.cell? ⟨b, off + j * 4, none⟩ = some (.int .i64 t.x) := (HR.out.kept hw).cellAt Hj.out (j := 0) rfl
      have u1 : w.cell? ⟨b, off + j * 4 + 1, none⟩ = some (.int .i64 t.y) := (HR.out.kept hw).cellAt Hj.out (j := 1) rfl
      have u2 : w.cell? ⟨b, off + j * 4 + 2, none⟩ = some (.int .i64 t.z) := (HR.out.kept hw).cellAt Hj.out (j := 2) rfl
      have u3 : w.cell? ⟨b, off + j * 4 + 3, none⟩ = some (.int .i64 t.m) := (HR.out.kept hw).cellAt Hj.out (j := 3) rfl
      simp only [Gives]
      go_simp
      exact ⟨Below.refl _ _, rfl, fun h => by cases h⟩
    refine And.intro (fun w hw hd => ?_) ?_
    · have d7 := hd 7 (by decide) rfl
      change vs 7 = _ at d7
      have d15 := hd 15 (by decide) rfl
      change vs 15 = _ at d15
      refine ite_yes rfl ?_
      simp only [Gives]
      go_simp
      exact ⟨Below.refl _ _, rfl, fun h => by cases h⟩
    exact trivial
  intro vs wt hw hd hne hlo
  have d0 := hd 0 (by decide)
  change vs 0 = _ at d0
  have d1 := hd 1 (by decide)
  change vs 1 = _ at d1
  have d2 := hd 2 (by decide)
  change vs 2 = _ at d2
  have d3 := hd 3 (by decide)
  change vs 3 = _ at d3
  have d4 := hd 4 (by decide)
  change vs 4 = _ at d4
  have d5 := hd 5 (by decide)
  change vs 5 = _ at d5
  have d6 := hd 6 (by decide)
  change vs 6 = _ at d6
  have d7 := hd 7 (by decide)
  change vs 7 = _ at d7
  have d8 := hd 8 (by decide)
  change vs 8 = _ at d8
  have d9 := hd 9 (by decide)
  change vs 9 = _ at d9
  have d10 := hd 10 (by decide)
  change vs 10 = _ at d10
  have d11 := hd 11 (by decide)
  change vs 11 = _ at d11
  have d12 := hd 12 (by decide)
  change vs 12 = _ at d12
  have d13 := hd 13 (by decide)
  change vs 13 = _ at d13
  have d14 := hd 14 (by decide)
  change vs 14 = _ at d14
  have d15 := hd 15 (by decide)
  change vs 15 = _ at d15
  have d16 := hd 16 (by decide)
  change vs 16 = _ at d16
  simp only [d0, d1, d2, d3, d4, d5, d6, d7, d8, d9, d10, d11, d12, d13, d14, d15, d16, List.drop_succ_cons, List.drop_zero]
  have hB := hB.kept hw
  have B6 := B6.kept hw
  have c_hB := fun i => hB.cell i
  have f_hB := fun i => hB.free i
  have c_B6 := fun i => B6.cell i
  have f_B6 := fun i => B6.free i
  clear hd hne hlo d0 d1 d2 d3 d4 d5 d6 d7 d8 d9 d10 d11 d12 d13 d14 d15 d16
  go_wp2
  refine bodyPost_ret (v := .agg #[.int .i64 s.x, .int .i64 s.y, .int .i64 s.z, .int .i64 s.m, .int .i64 t.x, .int .i64 t.y, .int .i64 t.z, .int .i64 t.m]) (by
    have N := Box.put8 (u0 := iv s.x) (u1 := iv s.y) (u2 := iv s.z) (u3 := iv s.m) (u4 := iv t.x) (u5 := iv t.y) (u6 := iv t.z) (u7 := iv t.m) B6
    have cN := fun i => N.cell i
    simp [results, Try.results62, go_sem, cN]) rfl ⟨rfl, ?_⟩
  exact up_put (up_put (up_put (up_put (up_put (up_put (up_put (up_put (up_later (up_alloc up0 _) hw) (Nat.le_refl _) _) (Nat.le_refl _) _) (Nat.le_refl _) _) (Nat.le_refl _) _) (Nat.le_refl _) _) (Nat.le_refl _) _) (Nat.le_refl _) _) (Nat.le_refl _) _

end Go.Proofs.Ytojbdmdjepgpjaa

namespace Go.Proofs.Ytojbdmdjepgpjaa
open Go.RowKit

def StOK (s : St) : Prop := (0 ≤ s.x ∧ s.x ≤ 100) ∧ (0 ≤ s.y ∧ s.y ≤ 100) ∧ (0 ≤ s.z ∧ s.z ≤ 1000)
def WlOK (x : Wl) : Prop := (0 ≤ x.x1 ∧ x.x1 ≤ 100) ∧ (0 ≤ x.y1 ∧ x.y1 ≤ 100) ∧ (0 ≤ x.x2 ∧ x.x2 ≤ 100) ∧ (0 ≤ x.y2 ∧ x.y2 ≤ 100) ∧ (0 ≤ x.b ∧ x.b ≤ 1000) ∧ (0 ≤ x.t ∧ x.t ≤ 1000)

theorem blocked_any (a b : St) (x : Wl) (ha : StOK a) (hb : StOK b) (hx : WlOK x) (w : World) :
    Calls Try.prog 65 #[.agg #[.int .i64 a.x, .int .i64 a.y, .int .i64 a.z, .int .i64 a.m, .int .i64 b.x, .int .i64 b.y, .int .i64 b.z, .int .i64 b.m], .agg #[.int .i64 x.x1, .int .i64 x.y1, .int .i64 x.x2, .int .i64 x.y2, .int .i64 x.b, .int .i64 x.t]] w fun e w' =>
      e = .returned (.bool (blocksW a b x)) ∧ Below w.heap.size w w' :=
  blockedBy_any a.x a.y a.z a.m b.x b.y b.z b.m x.x1 x.y1 x.x2 x.y2 x.b x.t w ha.1 ha.2.1 hb.1 hb.2.1 hx.1 hx.2.1 hx.2.2.1 hx.2.2.2.1 ha.2.2 hb.2.2 hx.2.2.2.2.1 hx.2.2.2.2.2

set_option maxRecDepth 100000 in
set_option maxHeartbeats 2000000 in
theorem IndexFunc_Wall_any (v : Value) (l : List Wl) (a b : St) (w : World) (hl : RowsAt w v 6 Wl.cells l) (ha : StOK a) (hb : StOK b) (hx : ∀ x ∈ l, WlOK x) :
    Calls Try.prog 88 #[v, .func (.func 65) #[.agg #[.int .i64 a.x, .int .i64 a.y, .int .i64 a.z, .int .i64 a.m, .int .i64 b.x, .int .i64 b.y, .int .i64 b.z, .int .i64 b.m]] #[]] w fun e w' =>
      ∃ i : Int, e = .returned (.int .i64 i) ∧ decide (0 ≤ i) = l.any (blocksW a b) ∧ -1 ≤ i ∧ i ≤ 1000 ∧ Below w.heap.size w w' := by
  obtain ⟨hlen, A, cap, hv, hcap, hmax⟩ := hl.form
  subst hv
  clear hcap hmax
  have Ha := Lib.hid ha
  have Hb := Lib.hid hb
  have HX := Lib.hid hx
  clear ha hb hx
  go_enter Try.func88, Try.ntmps88
  go_wp2
  go_loopw [8] (fun i wr => ∃ k : Nat, k ≤ l.length ∧ i = .int .i64 k ∧ Hid (((l.take k).all fun x => !blocksW a b x) = true) ∧ Below w.heap.size w wr) (fun i _ => l.length - (intOf i).toNat)
  case atStart => exact ⟨0, by omega, rfl, by simp [Hid], Below.refl _ _⟩
  case round =>
    obtain ⟨k, hk, rfl, hall, hB⟩ := hrel
    by_cases hlt : k < l.length
    · obtain ⟨x, hx⟩ : ∃ x, l[k]? = some x := ⟨_, List.getElem?_eq_getElem hlt⟩
      obtain ⟨bb, off, rfl, hbb, hc⟩ := (hl.kept hB).at rfl hx
      have hcall := fun w1 => blocked_any a b x Ha.out Hb.out (HX.out x (List.mem_of_getElem? hx)) w1
      have Hx := Lib.hid hx
      clear hx
      have q0 : wr.cell? ⟨bb, off + k * 6, none⟩ = some (.int .i64 x.x1) := hc 0 _ rfl
      have q1 : wr.cell? ⟨bb, off + k * 6 + 1, none⟩ = some (.int .i64 x.y1) := hc 1 _ rfl
      have q2 : wr.cell? ⟨bb, off + k * 6 + 2, none⟩ = some (.int .i64 x.x2) := hc 2 _ rfl
      have q3 : wr.cell? ⟨bb, off + k * 6 + 3, none⟩ = some (.int .i64 x.y2) := hc 3 _ rfl
      have q4 : wr.cell? ⟨bb, off + k * 6 + 4, none⟩ = some (.int .i64 x.b) := hc 4 _ rfl
      have q5 : wr.cell? ⟨bb, off + k * 6 + 5, none⟩ = some (.int .i64 x.t) := hc 5 _ rfl
      clear hc
      cases hp : blocksW a b x with
      | true =>
        have Hp := Lib.hid hp
        rw [hp] at hcall
        clear hp
        have Hf := Lib.hid hcall
        clear hcall
        go_wp2_with fail
        refine (Hf.out _).mono ?_
        rintro e w1 ⟨rfl, hb1⟩
        go_wp2
        go_ret
        exact ⟨_, rfl, by simp; exact ⟨x, List.mem_of_getElem? Hx.out, Hp.out⟩, by omega, by omega, up_later hB hb1⟩
      | false =>
        have Hp := Lib.hid hp
        rw [hp] at hcall
        clear hp
        have Hf := Lib.hid hcall
        clear hcall
        go_wp2_with fail
        refine (Hf.out _).mono ?_
        rintro e w1 ⟨rfl, hb1⟩
        go_wp2
        go_roundw
        case rel => exact ⟨k + 1, by omega, by go_num, all_take_succ Hx.out hall.out (by rw [Hp.out]; rfl), up_later hB hb1⟩
        case measure => simp [intOf]; omega
    · go_wp2
      go_ret
      exact ⟨-1, rfl, by have h := hall.out; rw [List.take_of_length_le (by omega)] at h; simp at h ⊢; exact fun a ha => h a ha, by omega, by omega, hB⟩

set_option maxHeartbeats 1000000 in
theorem ContainsFunc_Wall_any (v : Value) (l : List Wl) (a b : St) (w : World) (hl : RowsAt w v 6 Wl.cells l) (ha : StOK a) (hb : StOK b) (hx : ∀ x ∈ l, WlOK x) :
    Calls Try.prog 63 #[v, .func (.func 65) #[.agg #[.int .i64 a.x, .int .i64 a.y, .int .i64 a.z, .int .i64 a.m, .int .i64 b.x, .int .i64 b.y, .int .i64 b.z, .int .i64 b.m]] #[]] w fun e w' => e = .returned (.bool (l.any (blocksW a b))) ∧ Below w.heap.size w w' := by
  have H := Lib.hid (IndexFunc_Wall_any v l a b w hl ha hb hx)
  obtain ⟨_, A, cap, rfl, _, _⟩ := hl.form
  go_enter Try.func63, Try.ntmps63
  go_wp2_with (go_at_call 88; refine H.out.mono ?_; rintro e w1 ⟨i, rfl, hi, hi1, hi2, hb1⟩; have Hi := Lib.hid hi; clear hi)
  go_ret
  exact ⟨ret_bool Hi.out, hb1⟩

end Go.Proofs.Ytojbdmdjepgpjaa

namespace Go.Proofs.Ytojbdmdjepgpjaa
open Go.RowKit

theorem open_ok {L : Ld} {kase hour : Int} {l : List Int} (h : openI L kase hour l = 0) :
    errI L = 0 ∧ (0 ≤ kase ∧ kase < (L.cs.length : Int)) ∧ (0 ≤ hour ∧ hour < (L.sn.length : Int)) ∧ (∀ a ∈ l, 0 ≤ a ∧ a < (L.st.length : Int)) := by
  unfold openI at h
  by_cases he : errI L = 0
  · rw [if_neg (by simp [he])] at h
    by_cases hk : (!(inB 0 ((L.cs.length : Int) - 1) kase) || !(inB 0 ((L.sn.length : Int) - 1) hour) || !(l.all (inB 0 ((L.st.length : Int) - 1)))) = true
    · rw [if_pos hk] at h; cases h
    · simp only [Bool.or_eq_true, Bool.not_eq_true', not_or, Bool.not_eq_false] at hk
      obtain ⟨⟨h1, h2⟩, h3⟩ := hk
      rw [inB_iff] at h1 h2
      refine ⟨he, by omega, by omega, fun a ha => ?_⟩
      have := inB_iff.1 (List.all_eq_true.1 h3 a ha)
      omega
  · rw [if_pos he] at h; exact absurd h he
theorem open_ne {L : Ld} {kase hour a b : Int} (h : openI L kase hour [a, b] = 0) : a ≠ b := by
  intro hab
  subst hab
  have ho := open_ok h
  unfold openI at h
  rw [if_neg (by simp [ho.1])] at h
  split at h
  · cases h
  · simp at h

def SnOK (s : Sn) : Prop := (-100 ≤ s.e ∧ s.e ≤ 100) ∧ (-100 ≤ s.n ∧ s.n ≤ 100) ∧ (-100 ≤ s.u ∧ s.u ≤ 100)
theorem wlB_ok {x : Wl} (h : wlB x = true) : WlOK x := by
  simp only [wlB, Bool.and_eq_true, inB_iff, decide_eq_true_eq] at h
  unfold WlOK
  omega
structure LandOK (L : Ld) : Prop where
  st : ∀ s ∈ L.st, StOK s ∧ 1 ≤ s.m ∧ s.m ≤ 2
  rg : ∀ x ∈ L.rg, WlOK x
  cs : ∀ l ∈ L.cs, ∀ x ∈ l, WlOK x.w
  sn : ∀ s ∈ L.sn, SnOK s
  len : 0 < L.st.length ∧ L.st.length ≤ 6 ∧ L.rg.length ≤ 6 ∧ 0 < L.cs.length ∧ L.cs.length ≤ 4 ∧ 0 < L.sn.length ∧ L.sn.length ≤ 12
theorem land_ok {L : Ld} (h : errI L = 0) : LandOK L := by
  unfold errI at h
  cases hx : exB L with
  | true => rw [hx] at h; simp at h
  | false =>
    cases hv : validB L with
    | false => rw [hx, hv] at h; simp at h
    | true =>
      simp only [exB, Bool.or_eq_false_iff, decide_eq_false_iff_not] at hx
      simp only [validB, Bool.and_eq_true, decide_eq_true_eq] at hv
      obtain ⟨⟨⟨⟨⟨⟨⟨h1, h2⟩, h3⟩, h4⟩, _⟩, h6⟩, h7⟩, h8⟩ := hv
      refine ⟨fun s hs => ?_, fun x hx => ?_, fun l hl x hx => ?_, fun s hs => ?_, by omega⟩
      · have := List.all_eq_true.1 h4 s hs
        simp only [stB, Bool.and_eq_true, inB_iff] at this
        unfold StOK
        omega
      · have := List.all_eq_true.1 h6 x hx
        simp only [rgB, Bool.and_eq_true] at this
        exact wlB_ok this.1
      · have := List.all_eq_true.1 (List.all_eq_true.1 h7 l hl) x hx
        simp only [clB, Bool.and_eq_true] at this
        exact wlB_ok this.1.1.1
      · have := List.all_eq_true.1 h8 s hs
        simp only [snB, Bool.and_eq_true, inB_iff] at this
        unfold SnOK
        omega

def snAt (L : Ld) (i : Int) : Sn := L.sn[i.toNat]?.getD ⟨0, 0, 0⟩
/-- The sun of the hour is behind the station a, for b. -/
def behindL (L : Ld) (a b hour : Int) : Bool := behindI (snAt L hour).e (snAt L hour).n (stAt L a).x (stAt L a).y (stAt L b).x (stAt L b).y
/-- How many mirrors, and the error. -/
def mirI (L : Ld) (a b hour : Int) : Int × Int :=
  if openI L 0 hour [a, b] ≠ 0 then (0, openI L 0 hour [a, b]) else if (snAt L hour).u ≤ 0 then (0, 7) else if behindL L a b hour then (2, 0) else (1, 0)
/-- The rise: the smallest number that lifts the station over all ridges. -/
def lift (s : St) (n : Nat) : St := ⟨s.x, s.y, s.z + n, s.m⟩
def clearB (L : Ld) (s t : St) (n : Nat) : Bool := !(L.rg.any (blocksW (lift s n) t))

end Go.Proofs.Ytojbdmdjepgpjaa
