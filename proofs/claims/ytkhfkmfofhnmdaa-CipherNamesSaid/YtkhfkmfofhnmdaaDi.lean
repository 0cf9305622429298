/-
  WALKS of the law's fault, ready. Conditions: lists have at most 1000 elements.
-/
import Derived.Test.YtkhfkmfofhnmdaaDg
import Derived.Test.YtkhfkmfofhnmdaaDh
namespace Go.Proofs.Ytkhfkmfofhnmdaa
open Go.RowKit Go.Shelf
attribute [local go_sem] Oper.semAt_some

set_option maxRecDepth 100000 in
set_option maxHeartbeats 1000000 in
theorem Lfault_any (v1 v2 : Value) (b : Bk) (w : World) (hL : BookAt w v1 v2 b) :
    Calls Try.prog 23 #[.agg #[iv b.n, iv b.w, v1, v2]] w fun e w' => e = .returned (iv (bookE b)) ∧ Below w.heap.size w w' := by
  have HL := Lib.hid hL
  clear hL
  go_enter Try.func23, Try.ntmps23
  go_wp2_with fail
  refine (Fault_any _ _ b _ (HL.out.kept (up_alloc up0 _))).mono ?_
  rintro e w1 ⟨rfl, hb⟩
  go_wp2_with fail
  go_ret
  exact ⟨rfl, up_later (up_alloc up0 _) hb⟩

/-- A book is valid, and a plain text one of it. -/
def readyB (b : Bk) (l : List Int) : Bool := decide (bookE b = 0) && decide (l.length ≤ 10) && l.all (fun x => belowB x b.n)
theorem thin_of {b : Bk} (h : bookE b = 0) : b.ks.length ≤ 8 ∧ b.ds.length ≤ 11 := by
  have := BookOK.of h
  exact ⟨by have := this.k2; omega, by have := this.d2; omega⟩
set_option maxRecDepth 100000 in
set_option maxHeartbeats 1500000 in
theorem ready_thin (v1 v2 : Value) (b : Bk) (A : Option Addr) (n cap : Nat) (l : List Int) (w : World) (hL : BookAt w v1 v2 b) (hT : b.ks.length ≤ 8 ∧ b.ds.length ≤ 11) (hn : n ≤ 9223372036854775807) (hln : n = l.length) (hl : n ≤ 10 → IntsAt w (.slice A n cap) l) :
    Calls Try.prog 47 #[.agg #[iv b.n, iv b.w, v1, v2], .slice A n cap] w fun e w' => e = .returned (.bool (readyB b l)) ∧ Below w.heap.size w w' := by
  obtain ⟨_, A1, cap1, rfl, _, _⟩ := hL.ks.form
  obtain ⟨_, A2, cap2, rfl, _, _⟩ := hL.ds.form
  have HL := Lib.hid hL
  have HV := Lib.hid hl
  have HN := Lib.hid hln
  have TH := Lib.hid (show (decide (b.ks.length ≤ 8) && decide (b.ds.length ≤ 11)) = true by simp [hT])
  have h1 := hT.1
  have h2 := hT.2
  clear hL hl hT hln
  by_cases c1 : bookE b = 0
  case neg =>
    have e1 : (bookE b == 0) = false := by rw [beq_eq_false_iff_ne]; exact c1
    have Hf := Lib.hid (show readyB b l = false by simp [readyB, c1])
    clear c1
    go_enter Try.func47, Try.ntmps47
    go_wp2_with fail
    refine (Thin_any _ _ _ _ _ _ _ _ _ (by omega) (by omega)).mono ?_
    rintro e w1 ⟨rfl, hb⟩
    rw [TH.out]
    have HB := Lib.hid (up_later (up_alloc (up0 (w := w)) (.cells #[iv b.n, iv b.w, .slice A1 b.ks.length cap1, .slice A2 b.ds.length cap2] 25)) hb)
    have B1 := Lib.hid ((Box.new (w := w) (t := 25) (cs := #[iv b.n, iv b.w, .slice A1 b.ks.length cap1, .slice A2 b.ds.length cap2]) rfl).kept hb)
    clear hb
    have BB := B1.out
    have cB := fun i => BB.cell i
    have fB := fun i => BB.free i
    have lB := BB.lt
    have mB := Nat.lt_succ_of_lt lB
    go_wp2_with fail
    clear cB fB lB mB BB
    refine (Lfault_any _ _ b _ (HL.out.kept HB.out)).mono ?_
    rintro e w2 ⟨rfl, hb⟩
    have HB := Lib.hid (up_later HB.out hb)
    have B1 := Lib.hid (B1.out.kept hb)
    clear hb
    have BB := B1.out
    have cB := fun i => BB.cell i
    have fB := fun i => BB.free i
    have lB := BB.lt
    have mB := Nat.lt_succ_of_lt lB
    go_wp2_with fail
    clear cB fB lB mB BB
    go_ret
    exact ⟨by rw [Hf.out]; rfl, HB.out⟩
  have e1 : (bookE b == 0) = true := by rw [beq_iff_eq]; exact c1
  have hok := BookOK.of c1
  have hn0 := hok.n1
  have hn1 := hok.n2
  by_cases c2 : n ≤ 10
  case neg =>
    have e2 : decide ((n : Int) ≤ 10) = false := by rw [decide_eq_false_iff_not]; omega
    have Hf := Lib.hid (show readyB b l = false by rw [HN.out] at c2; simp [readyB, c2])
    have C1 := Lib.hid c1
    clear c1 hok
    go_enter Try.func47, Try.ntmps47
    go_wp2_with fail
    refine (Thin_any _ _ _ _ _ _ _ _ _ (by omega) (by omega)).mono ?_
    rintro e w1 ⟨rfl, hb⟩
    rw [TH.out]
    have HB := Lib.hid (up_later (up_alloc (up0 (w := w)) (.cells #[iv b.n, iv b.w, .slice A1 b.ks.length cap1, .slice A2 b.ds.length cap2] 25)) hb)
    have B1 := Lib.hid ((Box.new (w := w) (t := 25) (cs := #[iv b.n, iv b.w, .slice A1 b.ks.length cap1, .slice A2 b.ds.length cap2]) rfl).kept hb)
    clear hb
    have BB := B1.out
    have cB := fun i => BB.cell i
    have fB := fun i => BB.free i
    have lB := BB.lt
    have mB := Nat.lt_succ_of_lt lB
    go_wp2_with fail
    clear cB fB lB mB BB
    refine (Lfault_any _ _ b _ (HL.out.kept HB.out)).mono ?_
    rintro e w2 ⟨rfl, hb⟩
    have HB := Lib.hid (up_later HB.out hb)
    have B1 := Lib.hid (B1.out.kept hb)
    clear hb
    have BB := B1.out
    have cB := fun i => BB.cell i
    have fB := fun i => BB.free i
    have lB := BB.lt
    have mB := Nat.lt_succ_of_lt lB
    go_wp2_with fail
    clear cB fB lB mB BB
    go_ret
    exact ⟨by rw [Hf.out]; rfl, HB.out⟩
  have e2 : decide ((n : Int) ≤ 10) = true := by rw [decide_eq_true_iff]; omega
  have HV := Lib.hid (HV.out c2)
  have Hf := Lib.hid (show readyB b l = (l.all fun x => belowB x b.n) by rw [HN.out] at c2; simp [readyB, c1, c2])
  clear c1 hok
  go_enter Try.func47, Try.ntmps47
  go_wp2_with fail
  refine (Thin_any _ _ _ _ _ _ _ _ _ (by omega) (by omega)).mono ?_
  rintro e w1 ⟨rfl, hb⟩
  rw [TH.out]
  have HB := Lib.hid (up_later (up_alloc (up0 (w := w)) (.cells #[iv b.n, iv b.w, .slice A1 b.ks.length cap1, .slice A2 b.ds.length cap2] 25)) hb)
  have B1 := Lib.hid ((Box.new (w := w) (t := 25) (cs := #[iv b.n, iv b.w, .slice A1 b.ks.length cap1, .slice A2 b.ds.length cap2]) rfl).kept hb)
  clear hb
  have BB := B1.out
  have cB := fun i => BB.cell i
  have fB := fun i => BB.free i
  have lB := BB.lt
  have mB := Nat.lt_succ_of_lt lB
  go_wp2_with fail
  clear cB fB lB mB BB
  refine (Lfault_any _ _ b _ (HL.out.kept HB.out)).mono ?_
  rintro e w2 ⟨rfl, hb⟩
  have HB := Lib.hid (up_later HB.out hb)
  have B1 := Lib.hid (B1.out.kept hb)
  clear hb
  have BB := B1.out
  have cB := fun i => BB.cell i
  have fB := fun i => BB.free i
  have lB := BB.lt
  have mB := Nat.lt_succ_of_lt lB
  go_wp2_with fail
  clear cB fB lB mB BB
  refine (Plain_any b.n b.w _ _ _ l _ hn0 hn1 (HV.out.kept HB.out)).mono ?_
  rintro e w3 ⟨rfl, hb⟩
  have HB := Lib.hid (up_later HB.out hb)
  clear hb
  go_wp2_with fail
  go_ret
  exact ⟨by rw [Hf.out]; rfl, HB.out⟩
end Go.Proofs.Ytkhfkmfofhnmdaa
