/-
  CipherCodes holds: the error of a book, and the dispatch of a text, are as the reference says. No condition.
-/
import Derived.Test.YtoenhkhfpbglhaaEf
import Derived.Test.YtoenhkhfpbglhaaDe
namespace Go.Proofs.Ytoenhkhfpbglhaa
open Go.RowKit Go.Shelf
attribute [local go_sem] Oper.semAt_some

set_option maxRecDepth 100000 in
set_option maxHeartbeats 3000000 in
theorem codes_law (v1 v2 : Value) (b : Bk) (day : Int) (v : Value) (l : List Int) (w : World) (hL : BookAny w v1 v2 b) (hl : RowsAny w v 1 ic l) :
    Calls Try.prog 3 #[.agg #[iv b.n, iv b.w, v1, v2], iv day, v] w fun e w' => e = .returned (.bool true) ∧ Below w.heap.size w w' := by
  obtain ⟨A1, cap1, rfl, g1, g2⟩ := hL.ks.form
  obtain ⟨A2, cap2, rfl, g3, g4⟩ := hL.ds.form
  obtain ⟨A3, cap3, rfl, g5, g6⟩ := hl.form
  cases hT : (decide (b.ks.length ≤ 8) && decide (b.ds.length ≤ 11)) with
  | false =>
    have HT := Lib.hid hT
    clear hT hL hl
    go_enter Try.func3, Try.ntmps3
    go_wp2_with fail
    refine (Thin_any _ _ _ _ _ _ _ _ _ (by omega) (by omega)).mono ?_
    rintro e w1 ⟨rfl, hb⟩
    rw [HT.out]
    have HB := Lib.hid (up_later (up_alloc (up0 (w := w)) (.cells #[iv b.n, iv b.w, .slice A1 b.ks.length cap1, .slice A2 b.ds.length cap2] 25)) hb)
    have B1 := Lib.hid ((Box.new (w := w) (t := 25) (cs := #[iv b.n, iv b.w, .slice A1 b.ks.length cap1, .slice A2 b.ds.length cap2]) rfl).kept hb)
    clear hb
    have BB := B1.out
    have cB := fun i => BB.cell i
    have fB := fun i => BB.free i
    have lB := BB.lt
    have mB := Nat.lt_succ_of_lt lB
    go_wp2_with fail
    clear cB fB lB mB BB
    refine (awake_any _).mono ?_
    rintro e w9 ⟨rfl, hb⟩
    go_wp2_with fail
    go_ret
    exact ⟨rfl, up_later HB.out hb⟩
  | true =>
  have h8 : b.ks.length ≤ 8 ∧ b.ds.length ≤ 11 := by simpa using hT
  have HT := Lib.hid hT
  have HL := Lib.hid (hL.at h8.1 h8.2)
  have hk8 := h8.1
  have hd11 := h8.2
  clear hT hL h8
  by_cases c13 : 13 < l.length
  · have n13 : (13 : Int) < (l.length : Int) := by omega
    clear hl
    go_enter Try.func3, Try.ntmps3
    go_wp2_with fail
    refine (Thin_any _ _ _ _ _ _ _ _ _ (by omega) (by omega)).mono ?_
    rintro e w1 ⟨rfl, hb⟩
    rw [HT.out]
    have HB := Lib.hid (up_later (up_alloc (up0 (w := w)) (.cells #[iv b.n, iv b.w, .slice A1 b.ks.length cap1, .slice A2 b.ds.length cap2] 25)) hb)
    have B1 := Lib.hid ((Box.new (w := w) (t := 25) (cs := #[iv b.n, iv b.w, .slice A1 b.ks.length cap1, .slice A2 b.ds.length cap2]) rfl).kept hb)
    clear hb
    have BB := B1.out
    have cB := fun i => BB.cell i
    have fB := fun i => BB.free i
    have lB := BB.lt
    have mB := Nat.lt_succ_of_lt lB
    go_wp2_with fail
    clear cB fB lB mB BB
    refine (awake_any _).mono ?_
    rintro e w9 ⟨rfl, hb⟩
    go_wp2_with fail
    go_ret
    exact ⟨rfl, up_later HB.out hb⟩
  have n13 : ¬ (13 : Int) < (l.length : Int) := by omega
  have HV := Lib.hid (hl.rows (by omega))
  clear hl
  have hW : IntKind.i64.wrap ((b.ds.length : Int) - 1) = (b.ds.length : Int) - 1 := wrapK_in _ 1000 (by omega) (by omega)
  by_cases c1 : bookE b = 0
  case neg =>
    obtain ⟨E, hE⟩ : ∃ E, bookE b = E := ⟨_, rfl⟩
    have HE := Lib.hid hE
    have HCE := Lib.hid (show codeE b day l = ([], E) by unfold codeE; rw [if_pos c1, hE])
    rw [hE] at c1
    have e1 : (E == 0) = false := by rw [beq_eq_false_iff_ne]; exact c1
    clear c1 hE
    go_enter Try.func3, Try.ntmps3
    go_wp2_with fail
    refine (Thin_any _ _ _ _ _ _ _ _ _ (by omega) (by omega)).mono ?_
    rintro e w1 ⟨rfl, hb⟩
    rw [HT.out]
    have HB := Lib.hid (up_later (up_alloc (up0 (w := w)) (.cells #[iv b.n, iv b.w, .slice A1 b.ks.length cap1, .slice A2 b.ds.length cap2] 25)) hb)
    have B1 := Lib.hid ((Box.new (w := w) (t := 25) (cs := #[iv b.n, iv b.w, .slice A1 b.ks.length cap1, .slice A2 b.ds.length cap2]) rfl).kept hb)
    clear hb
    have BB := B1.out
    have cB := fun i => BB.cell i
    have fB := fun i => BB.free i
    have lB := BB.lt
    have mB := Nat.lt_succ_of_lt lB
    go_wp2_with fail
    clear cB fB lB mB BB
    refine (Book_any _ _ b _ (HL.out.kept HB.out)).mono ?_
    rintro e w2 ⟨a1, a2, rfl, hq, hb⟩
    have HQ := Lib.hid hq
    clear hq
    have HB := Lib.hid (up_later HB.out hb)
    have B1 := Lib.hid (B1.out.kept hb)
    clear hb
    unfold bookV
    have BB := B1.out
    have cB := fun i => BB.cell i
    have fB := fun i => BB.free i
    have lB := BB.lt
    have mB := Nat.lt_succ_of_lt lB
    go_wp2_with fail
    clear cB fB lB mB BB
    refine (CheckBook_any _ _ b _ HQ.out).mono ?_
    rintro e w3 ⟨rfl, hb⟩
    rw [HE.out]
    clear HQ
    have HB := Lib.hid (up_later HB.out hb)
    have B1 := Lib.hid (B1.out.kept hb)
    clear hb
    have BB := B1.out
    have cB := fun i => BB.cell i
    have fB := fun i => BB.free i
    have lB := BB.lt
    have mB := Nat.lt_succ_of_lt lB
    go_wp2_with fail
    clear cB fB lB mB BB
    refine (Book_any _ _ b _ (HL.out.kept HB.out)).mono ?_
    rintro e w2 ⟨a1, a2, rfl, hq, hb⟩
    have HQ := Lib.hid hq
    clear hq
    have HB := Lib.hid (up_later HB.out hb)
    have B1 := Lib.hid (B1.out.kept hb)
    clear hb
    unfold bookV
    have BB := B1.out
    have cB := fun i => BB.cell i
    have fB := fun i => BB.free i
    have lB := BB.lt
    have mB := Nat.lt_succ_of_lt lB
    go_wp2_with fail
    clear cB fB lB mB BB
    refine (list_any _ l _ (HV.out.kept HB.out)).mono ?_
    rintro e w3 ⟨lv, rfl, hq, hb⟩
    have HP := Lib.hid hq
    clear hq
    have HB := Lib.hid (up_later HB.out hb)
    have B1 := Lib.hid (B1.out.kept hb)
    have HQ := Lib.hid (HQ.out.kept hb)
    clear hb
    have BB := B1.out
    have cB := fun i => BB.cell i
    have fB := fun i => BB.free i
    have lB := BB.lt
    have mB := Nat.lt_succ_of_lt lB
    go_wp2_with fail
    clear cB fB lB mB BB
    refine (Code_any _ _ _ b day l _ HQ.out HP.out).mono ?_
    rintro e w4 ⟨cv, rfl, hq, hb⟩
    rw [HCE.out] at hq ⊢
    obtain ⟨Ac, pc, rfl⟩ := own_form' hq
    have HCV := Lib.hid hq
    clear hq HQ HP
    have HB := Lib.hid (up_later HB.out hb)
    have B1 := Lib.hid (B1.out.kept hb)
    clear hb
    have BB := B1.out
    have cB := fun i => BB.cell i
    have fB := fun i => BB.free i
    have lB := BB.lt
    have mB := Nat.lt_succ_of_lt lB
    go_wp2_with fail
    clear cB fB lB mB BB
    refine (Lfault_any _ _ b _ (HL.out.kept HB.out)).mono ?_
    rintro e w5 ⟨rfl, hb⟩
    rw [HE.out]
    have HCV := Lib.hid (own_below HCV.out hb)
    have HB := Lib.hid (up_later HB.out hb)
    have B1 := Lib.hid (B1.out.kept hb)
    clear hb
    have BB := B1.out
    have cB := fun i => BB.cell i
    have fB := fun i => BB.free i
    have lB := BB.lt
    have mB := Nat.lt_succ_of_lt lB
    go_wp2_with fail
    clear cB fB lB mB BB
    refine (awake_any _).mono ?_
    rintro e w9 ⟨rfl, hb⟩
    go_wp2_with fail
    go_ret
    exact ⟨rfl, up_later HB.out hb⟩
  have HE := Lib.hid c1
  have hok := BookOK.of c1
  have hn0 := hok.n1
  have hn1 := hok.n2
  have hd1 := hok.d1
  cases c2 : belowB day b.ds.length with
  | false =>
    have HIn := Lib.hid (show inB 0 ((b.ds.length : Int) - 1) day = false by rw [inB_below]; exact c2)
    have HCE := Lib.hid (show codeE b day l = ([], 2) by unfold codeE; rw [if_neg (by simpa using c1), if_pos c2])
    clear c1 c2 hok
    go_enter Try.func3, Try.ntmps3
    go_wp2_with fail
    refine (Thin_any _ _ _ _ _ _ _ _ _ (by omega) (by omega)).mono ?_
    rintro e w1 ⟨rfl, hb⟩
    rw [HT.out]
    have HB := Lib.hid (up_later (up_alloc (up0 (w := w)) (.cells #[iv b.n, iv b.w, .slice A1 b.ks.length cap1, .slice A2 b.ds.length cap2] 25)) hb)
    have B1 := Lib.hid ((Box.new (w := w) (t := 25) (cs := #[iv b.n, iv b.w, .slice A1 b.ks.length cap1, .slice A2 b.ds.length cap2]) rfl).kept hb)
    clear hb
    have BB := B1.out
    have cB := fun i => BB.cell i
    have fB := fun i => BB.free i
    have lB := BB.lt
    have mB := Nat.lt_succ_of_lt lB
    go_wp2_with fail
    clear cB fB lB mB BB
    refine (Book_any _ _ b _ (HL.out.kept HB.out)).mono ?_
    rintro e w2 ⟨a1, a2, rfl, hq, hb⟩
    have HQ := Lib.hid hq
    clear hq
    have HB := Lib.hid (up_later HB.out hb)
    have B1 := Lib.hid (B1.out.kept hb)
    clear hb
    unfold bookV
    have BB := B1.out
    have cB := fun i => BB.cell i
    have fB := fun i => BB.free i
    have lB := BB.lt
    have mB := Nat.lt_succ_of_lt lB
    go_wp2_with fail
    clear cB fB lB mB BB
    refine (CheckBook_any _ _ b _ HQ.out).mono ?_
    rintro e w3 ⟨rfl, hb⟩
    rw [HE.out]
    clear HQ
    have HB := Lib.hid (up_later HB.out hb)
    have B1 := Lib.hid (B1.out.kept hb)
    clear hb
    have BB := B1.out
    have cB := fun i => BB.cell i
    have fB := fun i => BB.free i
    have lB := BB.lt
    have mB := Nat.lt_succ_of_lt lB
    go_wp2_with fail
    clear cB fB lB mB BB
    refine (Book_any _ _ b _ (HL.out.kept HB.out)).mono ?_
    rintro e w2 ⟨a1, a2, rfl, hq, hb⟩
    have HQ := Lib.hid hq
    clear hq
    have HB := Lib.hid (up_later HB.out hb)
    have B1 := Lib.hid (B1.out.kept hb)
    clear hb
    unfold bookV
    have BB := B1.out
    have cB := fun i => BB.cell i
    have fB := fun i => BB.free i
    have lB := BB.lt
    have mB := Nat.lt_succ_of_lt lB
    go_wp2_with fail
    clear cB fB lB mB BB
    refine (list_any _ l _ (HV.out.kept HB.out)).mono ?_
    rintro e w3 ⟨lv, rfl, hq, hb⟩
    have HP := Lib.hid hq
    clear hq
    have HB := Lib.hid (up_later HB.out hb)
    have B1 := Lib.hid (B1.out.kept hb)
    have HQ := Lib.hid (HQ.out.kept hb)
    clear hb
    have BB := B1.out
    have cB := fun i => BB.cell i
    have fB := fun i => BB.free i
    have lB := BB.lt
    have mB := Nat.lt_succ_of_lt lB
    go_wp2_with fail
    clear cB fB lB mB BB
    refine (Code_any _ _ _ b day l _ HQ.out HP.out).mono ?_
    rintro e w4 ⟨cv, rfl, hq, hb⟩
    rw [HCE.out] at hq ⊢
    obtain ⟨Ac, pc, rfl⟩ := own_form' hq
    have HCV := Lib.hid hq
    clear hq HQ HP
    have HB := Lib.hid (up_later HB.out hb)
    have B1 := Lib.hid (B1.out.kept hb)
    clear hb
    have BB := B1.out
    have cB := fun i => BB.cell i
    have fB := fun i => BB.free i
    have lB := BB.lt
    have mB := Nat.lt_succ_of_lt lB
    go_wp2_with fail
    clear cB fB lB mB BB
    refine (Lfault_any _ _ b _ (HL.out.kept HB.out)).mono ?_
    rintro e w5 ⟨rfl, hb⟩
    rw [HE.out]
    have HCV := Lib.hid (own_below HCV.out hb)
    have HB := Lib.hid (up_later HB.out hb)
    have B1 := Lib.hid (B1.out.kept hb)
    clear hb
    have BB := B1.out
    have cB := fun i => BB.cell i
    have fB := fun i => BB.free i
    have lB := BB.lt
    have mB := Nat.lt_succ_of_lt lB
    go_wp2_with fail
    clear cB fB lB mB BB
    refine (In_b day 0 ((b.ds.length : Int) - 1) false _ HIn.out).mono ?_
    rintro e w6 ⟨rfl, hb⟩
    have HCV := Lib.hid (own_below HCV.out hb)
    have HB := Lib.hid (up_later HB.out hb)
    have B1 := Lib.hid (B1.out.kept hb)
    clear hb
    have BB := B1.out
    have cB := fun i => BB.cell i
    have fB := fun i => BB.free i
    have lB := BB.lt
    have mB := Nat.lt_succ_of_lt lB
    go_wp2_with fail
    clear cB fB lB mB BB
    refine (awake_any _).mono ?_
    rintro e w9 ⟨rfl, hb⟩
    go_wp2_with fail
    go_ret
    exact ⟨rfl, up_later HB.out hb⟩
  | true =>
  have HIn := Lib.hid (show inB 0 ((b.ds.length : Int) - 1) day = true by rw [inB_below]; exact c2)
  by_cases c3 : (10 : Int) < (l.length : Int)
  · have HCE := Lib.hid (show codeE b day l = ([], 3) by unfold codeE; rw [if_neg (by simpa using c1), if_neg (by simp [c2]), if_pos (by omega)])
    clear c1 c2 hok
    go_enter Try.func3, Try.ntmps3
    go_wp2_with fail
    refine (Thin_any _ _ _ _ _ _ _ _ _ (by omega) (by omega)).mono ?_
    rintro e w1 ⟨rfl, hb⟩
    rw [HT.out]
    have HB := Lib.hid (up_later (up_alloc (up0 (w := w)) (.cells #[iv b.n, iv b.w, .slice A1 b.ks.length cap1, .slice A2 b.ds.length cap2] 25)) hb)
    have B1 := Lib.hid ((Box.new (w := w) (t := 25) (cs := #[iv b.n, iv b.w, .slice A1 b.ks.length cap1, .slice A2 b.ds.length cap2]) rfl).kept hb)
    clear hb
    have BB := B1.out
    have cB := fun i => BB.cell i
    have fB := fun i => BB.free i
    have lB := BB.lt
    have mB := Nat.lt_succ_of_lt lB
    go_wp2_with fail
    clear cB fB lB mB BB
    refine (Book_any _ _ b _ (HL.out.kept HB.out)).mono ?_
    rintro e w2 ⟨a1, a2, rfl, hq, hb⟩
    have HQ := Lib.hid hq
    clear hq
    have HB := Lib.hid (up_later HB.out hb)
    have B1 := Lib.hid (B1.out.kept hb)
    clear hb
    unfold bookV
    have BB := B1.out
    have cB := fun i => BB.cell i
    have fB := fun i => BB.free i
    have lB := BB.lt
    have mB := Nat.lt_succ_of_lt lB
    go_wp2_with fail
    clear cB fB lB mB BB
    refine (CheckBook_any _ _ b _ HQ.out).mono ?_
    rintro e w3 ⟨rfl, hb⟩
    rw [HE.out]
    clear HQ
    have HB := Lib.hid (up_later HB.out hb)
    have B1 := Lib.hid (B1.out.kept hb)
    clear hb
    have BB := B1.out
    have cB := fun i => BB.cell i
    have fB := fun i => BB.free i
    have lB := BB.lt
    have mB := Nat.lt_succ_of_lt lB
    go_wp2_with fail
    clear cB fB lB mB BB
    refine (Book_any _ _ b _ (HL.out.kept HB.out)).mono ?_
    rintro e w2 ⟨a1, a2, rfl, hq, hb⟩
    have HQ := Lib.hid hq
    clear hq
    have HB := Lib.hid (up_later HB.out hb)
    have B1 := Lib.hid (B1.out.kept hb)
    clear hb
    unfold bookV
    have BB := B1.out
    have cB := fun i => BB.cell i
    have fB := fun i => BB.free i
    have lB := BB.lt
    have mB := Nat.lt_succ_of_lt lB
    go_wp2_with fail
    clear cB fB lB mB BB
    refine (list_any _ l _ (HV.out.kept HB.out)).mono ?_
    rintro e w3 ⟨lv, rfl, hq, hb⟩
    have HP := Lib.hid hq
    clear hq
    have HB := Lib.hid (up_later HB.out hb)
    have B1 := Lib.hid (B1.out.kept hb)
    have HQ := Lib.hid (HQ.out.kept hb)
    clear hb
    have BB := B1.out
    have cB := fun i => BB.cell i
    have fB := fun i => BB.free i
    have lB := BB.lt
    have mB := Nat.lt_succ_of_lt lB
    go_wp2_with fail
    clear cB fB lB mB BB
    refine (Code_any _ _ _ b day l _ HQ.out HP.out).mono ?_
    rintro e w4 ⟨cv, rfl, hq, hb⟩
    rw [HCE.out] at hq ⊢
    obtain ⟨Ac, pc, rfl⟩ := own_form' hq
    have HCV := Lib.hid hq
    clear hq HQ HP
    have HB := Lib.hid (up_later HB.out hb)
    have B1 := Lib.hid (B1.out.kept hb)
    clear hb
    have BB := B1.out
    have cB := fun i => BB.cell i
    have fB := fun i => BB.free i
    have lB := BB.lt
    have mB := Nat.lt_succ_of_lt lB
    go_wp2_with fail
    clear cB fB lB mB BB
    refine (Lfault_any _ _ b _ (HL.out.kept HB.out)).mono ?_
    rintro e w5 ⟨rfl, hb⟩
    rw [HE.out]
    have HCV := Lib.hid (own_below HCV.out hb)
    have HB := Lib.hid (up_later HB.out hb)
    have B1 := Lib.hid (B1.out.kept hb)
    clear hb
    have BB := B1.out
    have cB := fun i => BB.cell i
    have fB := fun i => BB.free i
    have lB := BB.lt
    have mB := Nat.lt_succ_of_lt lB
    go_wp2_with fail
    clear cB fB lB mB BB
    refine (In_b day 0 ((b.ds.length : Int) - 1) true _ HIn.out).mono ?_
    rintro e w6 ⟨rfl, hb⟩
    have HCV := Lib.hid (own_below HCV.out hb)
    have HB := Lib.hid (up_later HB.out hb)
    have B1 := Lib.hid (B1.out.kept hb)
    clear hb
    have BB := B1.out
    have cB := fun i => BB.cell i
    have fB := fun i => BB.free i
    have lB := BB.lt
    have mB := Nat.lt_succ_of_lt lB
    go_wp2_with fail
    clear cB fB lB mB BB
    refine (awake_any _).mono ?_
    rintro e w9 ⟨rfl, hb⟩
    go_wp2_with fail
    go_ret
    exact ⟨rfl, up_later HB.out hb⟩
  cases c4 : l.all (fun x => belowB x b.n) with
  | false =>
    have HCE := Lib.hid (show codeE b day l = ([], 2) by unfold codeE; rw [if_neg (by simpa using c1), if_neg (by simp [c2]), if_neg (by omega), if_pos c4])
    have HPl := Lib.hid c4
    clear c1 c2 c4 hok
    go_enter Try.func3, Try.ntmps3
    go_wp2_with fail
    refine (Thin_any _ _ _ _ _ _ _ _ _ (by omega) (by omega)).mono ?_
    rintro e w1 ⟨rfl, hb⟩
    rw [HT.out]
    have HB := Lib.hid (up_later (up_alloc (up0 (w := w)) (.cells #[iv b.n, iv b.w, .slice A1 b.ks.length cap1, .slice A2 b.ds.length cap2] 25)) hb)
    have B1 := Lib.hid ((Box.new (w := w) (t := 25) (cs := #[iv b.n, iv b.w, .slice A1 b.ks.length cap1, .slice A2 b.ds.length cap2]) rfl).kept hb)
    clear hb
    have BB := B1.out
    have cB := fun i => BB.cell i
    have fB := fun i => BB.free i
    have lB := BB.lt
    have mB := Nat.lt_succ_of_lt lB
    go_wp2_with fail
    clear cB fB lB mB BB
    refine (Book_any _ _ b _ (HL.out.kept HB.out)).mono ?_
    rintro e w2 ⟨a1, a2, rfl, hq, hb⟩
    have HQ := Lib.hid hq
    clear hq
    have HB := Lib.hid (up_later HB.out hb)
    have B1 := Lib.hid (B1.out.kept hb)
    clear hb
    unfold bookV
    have BB := B1.out
    have cB := fun i => BB.cell i
    have fB := fun i => BB.free i
    have lB := BB.lt
    have mB := Nat.lt_succ_of_lt lB
    go_wp2_with fail
    clear cB fB lB mB BB
    refine (CheckBook_any _ _ b _ HQ.out).mono ?_
    rintro e w3 ⟨rfl, hb⟩
    rw [HE.out]
    clear HQ
    have HB := Lib.hid (up_later HB.out hb)
    have B1 := Lib.hid (B1.out.kept hb)
    clear hb
    have BB := B1.out
    have cB := fun i => BB.cell i
    have fB := fun i => BB.free i
    have lB := BB.lt
    have mB := Nat.lt_succ_of_lt lB
    go_wp2_with fail
    clear cB fB lB mB BB
    refine (Book_any _ _ b _ (HL.out.kept HB.out)).mono ?_
    rintro e w2 ⟨a1, a2, rfl, hq, hb⟩
    have HQ := Lib.hid hq
    clear hq
    have HB := Lib.hid (up_later HB.out hb)
    have B1 := Lib.hid (B1.out.kept hb)
    clear hb
    unfold bookV
    have BB := B1.out
    have cB := fun i => BB.cell i
    have fB := fun i => BB.free i
    have lB := BB.lt
    have mB := Nat.lt_succ_of_lt lB
    go_wp2_with fail
    clear cB fB lB mB BB
    refine (list_any _ l _ (HV.out.kept HB.out)).mono ?_
    rintro e w3 ⟨lv, rfl, hq, hb⟩
    have HP := Lib.hid hq
    clear hq
    have HB := Lib.hid (up_later HB.out hb)
    have B1 := Lib.hid (B1.out.kept hb)
    have HQ := Lib.hid (HQ.out.kept hb)
    clear hb
    have BB := B1.out
    have cB := fun i => BB.cell i
    have fB := fun i => BB.free i
    have lB := BB.lt
    have mB := Nat.lt_succ_of_lt lB
    go_wp2_with fail
    clear cB fB lB mB BB
    refine (Code_any _ _ _ b day l _ HQ.out HP.out).mono ?_
    rintro e w4 ⟨cv, rfl, hq, hb⟩
    rw [HCE.out] at hq ⊢
    obtain ⟨Ac, pc, rfl⟩ := own_form' hq
    have HCV := Lib.hid hq
    clear hq HQ HP
    have HB := Lib.hid (up_later HB.out hb)
    have B1 := Lib.hid (B1.out.kept hb)
    clear hb
    have BB := B1.out
    have cB := fun i => BB.cell i
    have fB := fun i => BB.free i
    have lB := BB.lt
    have mB := Nat.lt_succ_of_lt lB
    go_wp2_with fail
    clear cB fB lB mB BB
    refine (Lfault_any _ _ b _ (HL.out.kept HB.out)).mono ?_
    rintro e w5 ⟨rfl, hb⟩
    rw [HE.out]
    have HCV := Lib.hid (own_below HCV.out hb)
    have HB := Lib.hid (up_later HB.out hb)
    have B1 := Lib.hid (B1.out.kept hb)
    clear hb
    have BB := B1.out
    have cB := fun i => BB.cell i
    have fB := fun i => BB.free i
    have lB := BB.lt
    have mB := Nat.lt_succ_of_lt lB
    go_wp2_with fail
    clear cB fB lB mB BB
    refine (In_b day 0 ((b.ds.length : Int) - 1) true _ HIn.out).mono ?_
    rintro e w6 ⟨rfl, hb⟩
    have HCV := Lib.hid (own_below HCV.out hb)
    have HB := Lib.hid (up_later HB.out hb)
    have B1 := Lib.hid (B1.out.kept hb)
    clear hb
    have BB := B1.out
    have cB := fun i => BB.cell i
    have fB := fun i => BB.free i
    have lB := BB.lt
    have mB := Nat.lt_succ_of_lt lB
    go_wp2_with fail
    clear cB fB lB mB BB
    refine (Plain_any b.n b.w _ _ _ l _ hn0 hn1 (HV.out.kept HB.out)).mono ?_
    rintro e w7 ⟨rfl, hb⟩
    rw [HPl.out]
    have HCV := Lib.hid (own_below HCV.out hb)
    have HB := Lib.hid (up_later HB.out hb)
    have B1 := Lib.hid (B1.out.kept hb)
    clear hb
    have BB := B1.out
    have cB := fun i => BB.cell i
    have fB := fun i => BB.free i
    have lB := BB.lt
    have mB := Nat.lt_succ_of_lt lB
    go_wp2_with fail
    clear cB fB lB mB BB
    refine (awake_any _).mono ?_
    rintro e w9 ⟨rfl, hb⟩
    go_wp2_with fail
    go_ret
    exact ⟨rfl, up_later HB.out hb⟩
  | true =>
    obtain ⟨d, rfl⟩ : ∃ d : Nat, day = d := ⟨day.toNat, by have := belowB_iff.1 c2; omega⟩
    have hd : d < b.ds.length := by have := belowB_iff.1 c2; omega
    obtain ⟨D, hD⟩ : ∃ D, dispatchI b d l = D := ⟨_, rfl⟩
    have hDl := dispatch_len b d l
    rw [hD] at hDl
    have HDl := Lib.hid (show D.length ≤ 1000 by omega)
    have HD := Lib.hid hD
    have HCE := Lib.hid (show codeE b d l = (D, 0) by unfold codeE; rw [if_neg (by simpa using c1), if_neg (by simp [c2]), if_neg (by omega), if_neg (by simp [c4]), Int.toNat_natCast, hD])
    have HPl := Lib.hid c4
    have HOK := Lib.hid hok
    have HIn2 := Lib.hid (show ∀ x ∈ l, 0 ≤ x ∧ x < b.n from fun x hx => belowB_iff.1 (List.all_eq_true.1 c4 x hx))
    have HD9 := Lib.hid hd
    clear c1 c2 c4 hok hD hDl hd
    generalize hday : (d : Int) = day at *
    go_enter Try.func3, Try.ntmps3
    go_wp2_with fail
    refine (Thin_any _ _ _ _ _ _ _ _ _ (by omega) (by omega)).mono ?_
    rintro e w1 ⟨rfl, hb⟩
    rw [HT.out]
    have HB := Lib.hid (up_later (up_alloc (up0 (w := w)) (.cells #[iv b.n, iv b.w, .slice A1 b.ks.length cap1, .slice A2 b.ds.length cap2] 25)) hb)
    have B1 := Lib.hid ((Box.new (w := w) (t := 25) (cs := #[iv b.n, iv b.w, .slice A1 b.ks.length cap1, .slice A2 b.ds.length cap2]) rfl).kept hb)
    clear hb
    have BB := B1.out
    have cB := fun i => BB.cell i
    have fB := fun i => BB.free i
    have lB := BB.lt
    have mB := Nat.lt_succ_of_lt lB
    go_wp2_with fail
    clear cB fB lB mB BB
    refine (Book_any _ _ b _ (HL.out.kept HB.out)).mono ?_
    rintro e w2 ⟨a1, a2, rfl, hq, hb⟩
    have HQ := Lib.hid hq
    clear hq
    have HB := Lib.hid (up_later HB.out hb)
    have B1 := Lib.hid (B1.out.kept hb)
    clear hb
    unfold bookV
    have BB := B1.out
    have cB := fun i => BB.cell i
    have fB := fun i => BB.free i
    have lB := BB.lt
    have mB := Nat.lt_succ_of_lt lB
    go_wp2_with fail
    clear cB fB lB mB BB
    refine (CheckBook_any _ _ b _ HQ.out).mono ?_
    rintro e w3 ⟨rfl, hb⟩
    rw [HE.out]
    clear HQ
    have HB := Lib.hid (up_later HB.out hb)
    have B1 := Lib.hid (B1.out.kept hb)
    clear hb
    have BB := B1.out
    have cB := fun i => BB.cell i
    have fB := fun i => BB.free i
    have lB := BB.lt
    have mB := Nat.lt_succ_of_lt lB
    go_wp2_with fail
    clear cB fB lB mB BB
    refine (Book_any _ _ b _ (HL.out.kept HB.out)).mono ?_
    rintro e w2 ⟨a1, a2, rfl, hq, hb⟩
    have HQ := Lib.hid hq
    clear hq
    have HB := Lib.hid (up_later HB.out hb)
    have B1 := Lib.hid (B1.out.kept hb)
    clear hb
    unfold bookV
    have BB := B1.out
    have cB := fun i => BB.cell i
    have fB := fun i => BB.free i
    have lB := BB.lt
    have mB := Nat.lt_succ_of_lt lB
    go_wp2_with fail
    clear cB fB lB mB BB
    refine (list_any _ l _ (HV.out.kept HB.out)).mono ?_
    rintro e w3 ⟨lv, rfl, hq, hb⟩
    have HP := Lib.hid hq
    clear hq
    have HB := Lib.hid (up_later HB.out hb)
    have B1 := Lib.hid (B1.out.kept hb)
    have HQ := Lib.hid (HQ.out.kept hb)
    clear hb
    have BB := B1.out
    have cB := fun i => BB.cell i
    have fB := fun i => BB.free i
    have lB := BB.lt
    have mB := Nat.lt_succ_of_lt lB
    go_wp2_with fail
    clear cB fB lB mB BB
    refine (Code_any _ _ _ b day l _ HQ.out HP.out).mono ?_
    rintro e w4 ⟨cv, rfl, hq, hb⟩
    rw [HCE.out] at hq ⊢
    obtain ⟨Ac, pc, rfl⟩ := own_form' hq
    have HCV := Lib.hid hq
    clear hq HQ HP
    have HB := Lib.hid (up_later HB.out hb)
    have B1 := Lib.hid (B1.out.kept hb)
    clear hb
    have BB := B1.out
    have cB := fun i => BB.cell i
    have fB := fun i => BB.free i
    have lB := BB.lt
    have mB := Nat.lt_succ_of_lt lB
    go_wp2_with fail
    clear cB fB lB mB BB
    refine (Lfault_any _ _ b _ (HL.out.kept HB.out)).mono ?_
    rintro e w5 ⟨rfl, hb⟩
    rw [HE.out]
    have HCV := Lib.hid (own_below HCV.out hb)
    have HB := Lib.hid (up_later HB.out hb)
    have B1 := Lib.hid (B1.out.kept hb)
    clear hb
    have BB := B1.out
    have cB := fun i => BB.cell i
    have fB := fun i => BB.free i
    have lB := BB.lt
    have mB := Nat.lt_succ_of_lt lB
    go_wp2_with fail
    clear cB fB lB mB BB
    refine (In_b day 0 ((b.ds.length : Int) - 1) true _ HIn.out).mono ?_
    rintro e w6 ⟨rfl, hb⟩
    have HCV := Lib.hid (own_below HCV.out hb)
    have HB := Lib.hid (up_later HB.out hb)
    have B1 := Lib.hid (B1.out.kept hb)
    clear hb
    have BB := B1.out
    have cB := fun i => BB.cell i
    have fB := fun i => BB.free i
    have lB := BB.lt
    have mB := Nat.lt_succ_of_lt lB
    go_wp2_with fail
    clear cB fB lB mB BB
    refine (Plain_any b.n b.w _ _ _ l _ hn0 hn1 (HV.out.kept HB.out)).mono ?_
    rintro e w7 ⟨rfl, hb⟩
    rw [HPl.out]
    have HCV := Lib.hid (own_below HCV.out hb)
    have HB := Lib.hid (up_later HB.out hb)
    have B1 := Lib.hid (B1.out.kept hb)
    clear hb
    have BB := B1.out
    have cB := fun i => BB.cell i
    have fB := fun i => BB.free i
    have lB := BB.lt
    have mB := Nat.lt_succ_of_lt lB
    go_wp2_with fail
    clear cB fB lB mB BB
    subst hday
    refine (RCode_any _ _ _ b d l _ HOK.out (HL.out.kept HB.out) HD9.out (HV.out.kept HB.out) HIn2.out (by omega)).mono ?_
    rintro e w8 ⟨u, rfl, hq, hb⟩
    rw [HD.out] at hq
    have HU := Lib.hid hq
    have HCV := Lib.hid (own_below HCV.out hb)
    clear hq
    have HB := Lib.hid (up_later HB.out hb)
    have B1 := Lib.hid (B1.out.kept hb)
    clear hb
    have BB := B1.out
    have cB := fun i => BB.cell i
    have fB := fun i => BB.free i
    have lB := BB.lt
    have mB := Nat.lt_succ_of_lt lB
    go_wp2_with fail
    clear cB fB lB mB BB
    refine (same_any _ _ D D _ (ints_of_own HCV.out rfl HDl.out) HU.out).mono ?_
    rintro e w7 ⟨rfl, hb⟩
    rw [decide_eq_true (p := D = D) rfl]
    have HB := Lib.hid (up_later HB.out hb)
    clear hb
    go_wp2_with fail
    refine (awake_any _).mono ?_
    rintro e w9 ⟨rfl, hb⟩
    go_wp2_with fail
    go_ret
    exact ⟨rfl, up_later HB.out hb⟩
end Go.Proofs.Ytoenhkhfpbglhaa

namespace Go.Proofs.Ytoenhkhfpbglhaa
open Go.ChangeShapes Go.WideShapes Go.ChangeAt Go.RowKit

set_option maxRecDepth 100000 in
theorem cipherCodes_lifted (os : Os) (started : os.Started) (H : Type) (enc : TypeId × Value → H) :
    ReturnsInHanded {} Try.checked os 3 .any (Rows.cipherCodesSpec.pre6 enc Try.prog Try.f3 Rows.cipherCodesRow.domain false) (Rows.cipherCodesSpec.post enc Try.prog Try.f3 false true false false) := by
  refine returnsInHanded_of_change (C := Try.checked) own_knob started (by kernel_rfl) Try.func3
    (ChangeSpec.witness6 (enc := enc) (C := Try.checked) false ⟨#[], #[.agg #[.int .i64 0, .int .i64 0, .slice Option.none 0 0, .slice Option.none 0 0], .int .i64 0, .slice Option.none 0 0], []⟩ 8 (by kernel_rfl) (by kernel_rfl) (by kernel_rfl) (by kernel_rfl)) ?_
  intro W base args ds gs before hval0 hW hcnd _
  have hval : ∀ (j : Nat) t v, Try.f3.params[j]? = some t → args[j]? = some v → Value.okWide Try.prog W .any base t v := hval0
  have hW' := hW
  obtain ⟨p, q, hA0, hV, rfl, hfz, hnd⟩ := hW
  have hA : DataW.TrodAll enc Try.prog W 0 (fun _ => true) true Try.f3.params.toList args.toList ds p := hA0
  rw [Try.params3] at hA hval
  have hlt : ∀ x ∈ p, x.block < W.heap.size := fun x hx => hW'.lt x (List.mem_append_left _ hx)
  have hAk := hA
  obtain ⟨v0, vs0, d0, ds0, p0, q0, hargs, rfl, rfl, h0, r0⟩ := trodAll_cons hA
  obtain ⟨v1, vs1, d1, ds1, p1, q1, rfl, rfl, rfl, h1, r1⟩ := trodAll_cons r0
  obtain ⟨v2, vs2, d2, ds2, p2, q2, rfl, rfl, rfl, h2, r2⟩ := trodAll_cons r1
  obtain ⟨rfl, rfl, rfl⟩ := trodAll_nil r2
  obtain rfl : args = #[v0, v1, v2] := by cases args; simp_all
  obtain ⟨rfl, rfl⟩ := trodVars_none hV
  obtain ⟨a1, rfl, rfl, rfl, w1⟩ := open_int Try.underlying3 (hval 1 3 v1 rfl rfl) h1
  obtain ⟨cs, rfl, _⟩ := okWide_struct und25 (hval 0 25 v0 rfl rfl)
  obtain ⟨fuel, h0⟩ := h0
  obtain ⟨u1, u2, b, hcs, hL⟩ := open_book h0
  obtain rfl : cs = #[iv b.n, iv b.w, u1, u2] := by
    have h : cs.toList = [iv b.n, iv b.w, u1, u2] := hcs
    cases cs
    simp at h
    rw [h]
  obtain ⟨ba2, len2, cap2, rfl⟩ := okWide_slice Try.underlying23 (hval 2 23 v2 rfl rfl)
  obtain ⟨fuel2, h2⟩ := h2
  obtain ⟨x2, l2, e2, hl2⟩ := open_list h2
  obtain rfl : x2 = .slice ba2 len2 cap2 := by
    have h : [Value.slice ba2 len2 cap2] = [x2] := e2
    injection h with h _
    exact h.symm
  clear hA0 hval0 hval hA
  simp only [List.append_nil] at hW'
  simp only [List.append_nil] at hAk hlt
  refine (codes_law u1 u2 b a1 _ l2 W hL hl2).mono fun e W' ⟨he, hg⟩ => ?_
  subst he
  refine ⟨_, rfl, post_below (pv := []) hW' hg (fun _ _ _ => (trodAll_cons_mk (shut_bool Try.underlying4 _) trodAll_mk0)) (fun sp hsp => ?_) (fun _ _ => rfl) (List.append_nil _).symm
    (ok_one (by kernel_rfl) rfl (okWide_bool_mk Try.underlying4 _))⟩
  rw [Try.params3]
  refine args_stay laid_out hg (fun t ht => ?_) hAk hlt sp (fun x hx => hsp x (by first | exact hx | simpa using hx))
  simp only [List.mem_cons, List.not_mem_nil, or_false] at ht
  rcases ht with rfl | rfl | rfl
  · exact ⟨by kernel_rfl, by have h : decide (25 < Try.prog.types.size) = true := (by kernel_rfl); exact of_decide_eq_true h⟩
  · exact ⟨by kernel_rfl, by have h : decide (3 < Try.prog.types.size) = true := (by kernel_rfl); exact of_decide_eq_true h⟩
  · exact ⟨by kernel_rfl, by have h : decide (23 < Try.prog.types.size) = true := (by kernel_rfl); exact of_decide_eq_true h⟩

theorem cipherCodes_over : Rows.cipherCodesRow.holds Try.pinned (OpenSpec.ofChange Rows.cipherCodesSpec) :=
  OpenClaim.holds_of_wide 3 Try.f3 rfl rfl rfl rfl rfl rfl rfl ⟨rfl, rfl, rfl, rfl, rfl⟩ rfl rfl rfl rfl rfl (by kernel_rfl) Try.func3 (by kernel_rfl)
    (of_decide_eq_true (by kernel_rfl)) (by unfold Func.isWrapper; first | (rw [if_pos (by decide +kernel)]; kernel_rfl) | (rw [if_neg (by decide +kernel)]; exact ⟨rfl, rfl⟩))
    (fun os started H enc _ => cipherCodes_lifted os started H enc)

theorem CipherCodes_holds : Rows.CipherCodesSaid := cipherCodes_over

end Go.Proofs.Ytoenhkhfpbglhaa
