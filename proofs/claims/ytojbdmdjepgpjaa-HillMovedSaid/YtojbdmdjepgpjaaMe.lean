/-
  WALKS and PLAIN: the laws' own fault, ready and pair; numbers chosen by %; what the end of a law's proof needs of types. Conditions: lists have at most 1000 elements.
-/
import Derived.Test.YtojbdmdjepgpjaaMc
import Derived.Test.YtojbdmdjepgpjaaMb
import Derived.Test.YtojbdmdjepgpjaaHe
import Derived.Test.YtojbdmdjepgpjaaAo
namespace Go.Proofs.Ytojbdmdjepgpjaa
open Go.RowKit

set_option maxRecDepth 100000 in
set_option maxHeartbeats 1000000 in
theorem Lfault_any (v1 v2 v3 v4 : Value) (L : Ld) (c : List (Value × List Cl)) (w : World) (hL : LandAt w v1 v2 v3 v4 L c) :
    Calls Try.prog 21 #[.agg #[v1, v2, v3, v4]] w fun e w' => e = .returned (.int .i64 (errI L)) ∧ Below w.heap.size w w' := by
  have Hc := Lib.hid (fun o => Fault_any v1 v2 v3 v4 L c _ (hL.kept (up_alloc up0 o)))
  obtain ⟨hn1, A1, cap1, rfl, _, _⟩ := hL.st.form
  obtain ⟨hn2, A2, cap2, rfl, _, _⟩ := hL.rg.form
  obtain ⟨hn3, A3, cap3, rfl, _, _⟩ := hL.cs.form
  obtain ⟨hn4, A4, cap4, rfl, _, _⟩ := hL.sn.form
  clear hL
  go_enter Try.func21, Try.ntmps21
  go_wp2_with fail
  refine (Hc.out _).mono ?_
  rintro e w1 ⟨rfl, hb⟩
  go_wp2_with fail
  go_ret
  exact ⟨rfl, up_later (up_alloc up0 _) hb⟩

def readyB (L : Ld) : Bool := thinB L && errI L == 0 && decide (1 < L.st.length)

set_option maxRecDepth 100000 in
set_option maxHeartbeats 1000000 in
theorem Lready_any (v1 v2 v3 v4 : Value) (L : Ld) (c : List (Value × List Cl)) (w : World) (hL : LandAny w v1 v2 v3 v4 L c) :
    Calls Try.prog 37 #[.agg #[v1, v2, v3, v4]] w fun e w' => e = .returned (.bool (readyB L)) ∧ Below w.heap.size w w' := by
  have HL := Lib.hid hL
  obtain ⟨A1, cap1, rfl, _, _⟩ := hL.st.form
  obtain ⟨A2, cap2, rfl, _, _⟩ := hL.rg.form
  obtain ⟨A3, cap3, rfl, _, _⟩ := hL.cs.form
  obtain ⟨A4, cap4, rfl, _, _⟩ := hL.sn.form
  clear hL
  have B1 := Box.new (w := w) (t := 27) (cs := #[.slice A1 L.st.length cap1, .slice A2 L.rg.length cap2, .slice A3 c.length cap3, .slice A4 L.sn.length cap4]) rfl
  cases hth : thinB L with
  | false =>
    have hr : readyB L = false := by simp [readyB, hth]
    have Hr := Lib.hid hr
    have Hth := Lib.hid hth
    clear hr hth
    go_enter Try.func37, Try.ntmps37
    go_wp2_with fail
    refine (Thin_any _ _ _ _ L c _ (HL.out.kept (up_alloc up0 _))).mono ?_
    rintro e w1 ⟨rfl, hb⟩
    rw [Hth.out]
    go_wp2_with fail
    go_ret
    exact ⟨by rw [Hr.out]; rfl, up_later (up_alloc up0 _) hb⟩
  | true =>
    have hT := HL.out.thin hth
    have HT := Lib.hid hT
    have Hth := Lib.hid hth
    clear hT hth
    by_cases he : errI L = 0
    · have He := Lib.hid he
      clear he
      by_cases h1 : 1 < L.st.length
      · have hr : readyB L = true := by simp [readyB, Hth.out, He.out, h1]
        have n1 : (1 : Int) < (L.st.length : Int) := by omega
        have Hr := Lib.hid hr
        clear hr
        go_enter Try.func37, Try.ntmps37
        go_wp2_with fail
        refine (Thin_any _ _ _ _ L c _ (HL.out.kept (up_alloc up0 _))).mono ?_
        rintro e w1 ⟨rfl, hb⟩
        rw [Hth.out]
        have B2 := B1.kept hb
        have c2 := fun i => B2.cell i
        go_wp2_with fail
        refine (Lfault_any _ _ _ _ L c _ ((HT.out.kept (up_alloc up0 _)).kept hb)).mono ?_
        rintro e w2 ⟨rfl, hb2⟩
        rw [He.out]
        have B3 := B2.kept hb2
        have c3 := fun i => B3.cell i
        go_wp2_with fail
        go_ret
        exact ⟨by rw [Hr.out]; rfl, up_later (up_later (up_alloc up0 _) hb) hb2⟩
      · have hr : readyB L = false := by simp [readyB, h1]
        have n1 : ¬ (1 : Int) < (L.st.length : Int) := by omega
        have Hr := Lib.hid hr
        clear hr
        go_enter Try.func37, Try.ntmps37
        go_wp2_with fail
        refine (Thin_any _ _ _ _ L c _ (HL.out.kept (up_alloc up0 _))).mono ?_
        rintro e w1 ⟨rfl, hb⟩
        rw [Hth.out]
        have B2 := B1.kept hb
        have c2 := fun i => B2.cell i
        go_wp2_with fail
        refine (Lfault_any _ _ _ _ L c _ ((HT.out.kept (up_alloc up0 _)).kept hb)).mono ?_
        rintro e w2 ⟨rfl, hb2⟩
        rw [He.out]
        have B3 := B2.kept hb2
        have c3 := fun i => B3.cell i
        go_wp2_with fail
        go_ret
        exact ⟨by rw [Hr.out]; show Ending.returned (.bool (decide ((1 : Int) < (L.st.length : Int)))) = _; rw [decide_eq_false (by omega)], up_later (up_later (up_alloc up0 _) hb) hb2⟩
    · have hr : readyB L = false := by simp [readyB, he]
      have hne : (errI L == 0) = false := by rw [beq_eq_false_iff_ne]; exact he
      have Hr := Lib.hid hr
      clear hr he
      go_enter Try.func37, Try.ntmps37
      go_wp2_with fail
      refine (Thin_any _ _ _ _ L c _ (HL.out.kept (up_alloc up0 _))).mono ?_
      rintro e w1 ⟨rfl, hb⟩
      rw [Hth.out]
      have B2 := B1.kept hb
      have c2 := fun i => B2.cell i
      go_wp2_with fail
      refine (Lfault_any _ _ _ _ L c _ ((HT.out.kept (up_alloc up0 _)).kept hb)).mono ?_
      rintro e w2 ⟨rfl, hb2⟩
      go_wp2_with fail
      go_ret
      exact ⟨by rw [Hr.out]; rfl, up_later (up_later (up_alloc up0 _) hb) hb2⟩

/-- Two different stations, chosen by a number. -/
def pairI (n x : Int) : Int × Int := (x % n, (x % n + 1 + x / 8 % (n - 1)) % n)

set_option maxRecDepth 100000 in
set_option maxHeartbeats 1000000 in
theorem Lpair_any (A1 : Option Addr) (n cap1 : Nat) (v2 v3 v4 : Value) (x : Int) (w : World) (hn : 1 < n) (hn2 : n ≤ 1000) (hx : 0 ≤ x ∧ x ≤ 255) :
    Calls Try.prog 38 #[.agg #[.slice A1 n cap1, v2, v3, v4], .int .u8 x] w fun e w' => e = .returned (.tuple #[.int .i64 (pairI n x).1, .int .i64 (pairI n x).2]) ∧ Below w.heap.size w w' := by
  obtain ⟨hx0, hx1⟩ := hx
  have n0 : ¬ (n : Int) = 0 := by omega
  have n1 : ¬ (n : Int) - 1 = 0 := by omega
  have z0 : ((n : Int) == 0) = false := by rw [beq_eq_false_iff_ne]; omega
  have z1 : ((n : Int) - 1 == 0) = false := by rw [beq_eq_false_iff_ne]; omega
  have m0 : 0 ≤ x % (n : Int) := Int.emod_nonneg _ (by omega)
  have m1 : x % (n : Int) < n := Int.emod_lt_of_pos _ (by omega)
  have r0 : 0 ≤ x / 8 % ((n : Int) - 1) := Int.emod_nonneg _ (by omega)
  have r1 : x / 8 % ((n : Int) - 1) < n - 1 := Int.emod_lt_of_pos _ (by omega)
  have s0 : 0 ≤ x / 8 := by omega
  go_enter Try.func38, Try.ntmps38
  go_wp2_with fail
  go_region
  all_goals go_wp2_with fail
  all_goals go_ret2
  all_goals exact ⟨rfl, up_drew (up_alloc up0 _)⟩

end Go.Proofs.Ytojbdmdjepgpjaa

namespace Go.Proofs.Ytojbdmdjepgpjaa
open Go.RowKit

theorem open_zero {L : Ld} {i j k h : Nat} (he : errI L = 0) (hi : i < L.st.length) (hj : j < L.st.length) (hk : k < L.cs.length) (hh : h < L.sn.length) (hij : i ≠ j) : openI L k h [(i : Int), (j : Int)] = 0 := by
  have h1 : inB 0 ((L.cs.length : Int) - 1) k = true := inB_iff.2 (by omega)
  have h2 : inB 0 ((L.sn.length : Int) - 1) h = true := inB_iff.2 (by omega)
  have h3 : ([(i : Int), (j : Int)].all (inB 0 ((L.st.length : Int) - 1))) = true := by
    have a1 : inB 0 ((L.st.length : Int) - 1) i = true := inB_iff.2 (by omega)
    have a2 : inB 0 ((L.st.length : Int) - 1) j = true := inB_iff.2 (by omega)
    simp [a1, a2]
  have h4 : ((i : Int) == (j : Int)) = false := by rw [beq_eq_false_iff_ne]; omega
  unfold openI
  rw [if_neg (by simp [he]), h1, h2, h3]
  simp only [Bool.not_true, Bool.or_self, Bool.false_eq_true, if_false, h4]
theorem cloudsI_back (L : Ld) (a b k h : Int) : cloudsI L b a k h = cloudsI L a b k h := by
  unfold cloudsI
  congr 1
  funext c
  unfold cloudB
  rw [blocksW_back]
theorem behind_once (e n ax ay bx b_y : Int) (h : behindI e n ax ay bx b_y = true) : behindI e n bx b_y ax ay = false := by
  unfold behindI at h ⊢
  rw [decide_eq_true_eq] at h
  rw [decide_eq_false_iff_not]
  have e1 : e * (ax - bx) = -(e * (bx - ax)) := by rw [← Int.mul_neg, Int.neg_sub]
  have e2 : n * (ay - b_y) = -(n * (b_y - ay)) := by rw [← Int.mul_neg, Int.neg_sub]
  rw [e1, e2]
  omega

end Go.Proofs.Ytojbdmdjepgpjaa

namespace Go.Proofs.Ytojbdmdjepgpjaa
open Go.RowKit

theorem mod_ne {n x : Int} (hn : 1 < n) : (x % n + 1 + x / 8 % (n - 1)) % n ≠ x % n := by
  have m0 : 0 ≤ x % n := Int.emod_nonneg _ (by omega)
  have m1 : x % n < n := Int.emod_lt_of_pos _ (by omega)
  have r0 : 0 ≤ x / 8 % (n - 1) := Int.emod_nonneg _ (by omega)
  have r1 : x / 8 % (n - 1) < n - 1 := Int.emod_lt_of_pos _ (by omega)
  generalize x % n = a at *
  generalize x / 8 % (n - 1) = r at *
  by_cases h : a + 1 + r < n
  · rw [Int.emod_eq_of_lt (by omega) h]
    omega
  · have e : (a + 1 + r) % n = (a + 1 + r - n) % n := by
      have := Int.add_mul_emod_self_left (a + 1 + r - n) n 1
      rw [Int.mul_one, Int.sub_add_cancel] at this
      exact this
    rw [e, Int.emod_eq_of_lt (by omega) (by omega)]
    omega
theorem nat_mod {x : Int} {n : Nat} (hn : 0 < n) : ∃ k : Nat, x % (n : Int) = k ∧ k < n := by
  have m0 : 0 ≤ x % (n : Int) := Int.emod_nonneg _ (by omega)
  have m1 : x % (n : Int) < n := Int.emod_lt_of_pos _ (by omega)
  exact ⟨(x % (n : Int)).toNat, by omega, by omega⟩

end Go.Proofs.Ytojbdmdjepgpjaa

namespace Go.Proofs.Ytojbdmdjepgpjaa
open Go.ChangeShapes Go.WideShapes Go.ChangeAt Go.RowKit

theorem own_knob : ownKnob Try.prog.godebug = Option.none := by kernel_rfl
theorem laid_out : laidOutB Try.prog = true := by kernel_rfl
theorem rec27 : Try.prog.readableRec 27 = true ∧ 27 < Try.prog.types.size := ⟨by kernel_rfl, by have h : decide (27 < Try.prog.types.size) = true := (by kernel_rfl); exact of_decide_eq_true h⟩
theorem rec5 : Try.prog.readableRec 5 = true ∧ 5 < Try.prog.types.size := ⟨by kernel_rfl, by have h : decide (5 < Try.prog.types.size) = true := (by kernel_rfl); exact of_decide_eq_true h⟩
theorem und27 : Try.prog.underlying 27 = some (.struct (Try.prog.fieldsOf 27)) := by kernel_rfl

end Go.Proofs.Ytojbdmdjepgpjaa
