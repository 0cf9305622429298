/-
  CipherKept holds: with a best plan as its days no dispatch of a book can be read on its own day. No condition.
-/
import Derived.Test.YtoenhkhfpbglhaaDe
import Derived.Test.YtoenhkhfpbglhaaDj
import Derived.Test.YtoenhkhfpbglhaaEa
import Derived.Test.YtoenhkhfpbglhaaEb
import Derived.Test.YtoenhkhfpbglhaaDr
namespace Go.Proofs.Ytoenhkhfpbglhaa
open Go.RowKit Go.Shelf
attribute [local go_sem] Oper.semAt_some

def Fact.exposed (n0 : Nat) (l : List Int) : Fact := ⟨fun v w => ∃ A p, v = .tuple #[.slice A l.length p, iv 0] ∧ w.ownsRow n0 3 1 (.slice A l.length p) l.length (l.map iv), fun _ _ _ ⟨A, p, h, h1⟩ hb => ⟨A, p, h, own_below h1 hb⟩, false, fun _ _ h => by cases h⟩
set_option maxRecDepth 100000 in
set_option maxHeartbeats 2000000 in
theorem kept_law (v1 v2 : Value) (b : Bk) (v : Value) (ls : List Ls) (x : Int) (w : World) (hL : BookAny w v1 v2 b) (hl : RowsAny w v 2 Ls.cells ls) (hx : 0 ≤ x ∧ x ≤ 255) :
    Calls Try.prog 16 #[.agg #[iv b.n, iv b.w, v1, v2], v, .int .u8 x] w fun e w' => e = .returned (.bool true) ∧ Below w.heap.size w w' := by
  obtain ⟨A1, cap1, rfl, g1, g2⟩ := hL.ks.form
  obtain ⟨A2, cap2, rfl, g3, g4⟩ := hL.ds.form
  obtain ⟨A3, cap3, rfl, g5, g6⟩ := hl.form
  obtain ⟨hx0, hx1⟩ := hx
  have HA := Lib.hid hL
  have HVA := Lib.hid hl
  clear hL hl
  cases hr : lossedT b ls with
  | false =>
    have Hr := Lib.hid hr
    clear hr
    go_enter Try.func16, Try.ntmps16
    go_wp2_with fail
    refine (lossed_law _ _ b _ ls _ (HA.out.kept (up_alloc up0 _)) (HVA.out.kept (up_alloc up0 _))).mono ?_
    rintro e w1 ⟨rfl, hb⟩
    rw [Hr.out]
    have HB := Lib.hid (up_later (up_alloc (up0 (w := w)) (.cells #[iv b.n, iv b.w, .slice A1 b.ks.length cap1, .slice A2 b.ds.length cap2] 25)) hb)
    have B1 := Lib.hid ((Box.new (w := w) (t := 25) (cs := #[iv b.n, iv b.w, .slice A1 b.ks.length cap1, .slice A2 b.ds.length cap2]) rfl).kept hb)
    clear hb
    have BB := B1.out
    have cB := fun i => BB.cell i
    have fB := fun i => BB.free i
    have lB := BB.lt
    have mB := Nat.lt_succ_of_lt lB
    go_wp2_with fail
    clear cB fB lB mB BB
    refine (awake_any _).mono ?_
    rintro e w9 ⟨rfl, hb⟩
    go_wp2_with fail
    go_ret
    exact ⟨rfl, up_later HB.out hb⟩
  | true =>
  have Hr := Lib.hid hr
  obtain ⟨h8, h9, hE⟩ := lossedT_iff.1 hr
  have HL := Lib.hid (HA.out.at h8.1 h8.2)
  have HV := Lib.hid (HVA.out.rows (by omega))
  have hk8 := h8.1
  have hd11 := h8.2
  obtain ⟨mo, hmo⟩ : ∃ mo, x % 9 = mo := ⟨_, rfl⟩
  have hbm : belowB mo 9 = true := belowB_iff.2 (by omega)
  have HMo := Lib.hid hmo
  by_cases c8 : (bestI b ls mo).2 = 8
  · have HPl := Lib.hid (show planE b ls mo = ([], 0, 10) by unfold planE; rw [if_neg (by simpa using hE), if_neg (by rw [hbm]; simp), if_pos c8])
    clear hr hE hbm hmo c8 h8
    go_enter Try.func16, Try.ntmps16
    go_wp2_with fail
    refine (lossed_law _ _ b _ ls _ (HA.out.kept (up_alloc up0 _)) (HVA.out.kept (up_alloc up0 _))).mono ?_
    rintro e w1 ⟨rfl, hb⟩
    rw [Hr.out]
    have HB := Lib.hid (up_later (up_alloc (up0 (w := w)) (.cells #[iv b.n, iv b.w, .slice A1 b.ks.length cap1, .slice A2 b.ds.length cap2] 25)) hb)
    have B1 := Lib.hid ((Box.new (w := w) (t := 25) (cs := #[iv b.n, iv b.w, .slice A1 b.ks.length cap1, .slice A2 b.ds.length cap2]) rfl).kept hb)
    clear hb
    have BB := B1.out
    have cB := fun i => BB.cell i
    have fB := fun i => BB.free i
    have lB := BB.lt
    have mB := Nat.lt_succ_of_lt lB
    go_wp2_with fail
    clear cB fB lB mB BB
    refine (Book_any _ _ b _ (HL.out.kept HB.out)).mono ?_
    rintro e w2 ⟨a1, a2, rfl, hq, hb⟩
    have HQ := Lib.hid hq
    clear hq
    have HB := Lib.hid (up_later HB.out hb)
    have B1 := Lib.hid (B1.out.kept hb)
    clear hb
    unfold bookV
    have BB := B1.out
    have cB := fun i => BB.cell i
    have fB := fun i => BB.free i
    have lB := BB.lt
    have mB := Nat.lt_succ_of_lt lB
    go_wp2_with fail
    clear cB fB lB mB BB
    refine (Losses_any _ ls _ (HV.out.kept HB.out)).mono ?_
    rintro e w3 ⟨lv, rfl, hq, hb⟩
    have HP := Lib.hid hq
    have HQ := Lib.hid (HQ.out.kept hb)
    clear hq
    have HB := Lib.hid (up_later HB.out hb)
    have B1 := Lib.hid (B1.out.kept hb)
    clear hb
    have BB := B1.out
    have cB := fun i => BB.cell i
    have fB := fun i => BB.free i
    have lB := BB.lt
    have mB := Nat.lt_succ_of_lt lB
    go_wp2_with fail
    clear cB fB lB mB BB
    refine (Plan_any _ _ _ b ls (x % 9) _ HQ.out HP.out).mono ?_
    rintro e w4 ⟨pv, rfl, hq, hb⟩
    rw [HMo.out, HPl.out] at hq ⊢
    obtain ⟨_, Ap, cp, rfl, _, _⟩ := hq.form
    clear hq HQ HP
    have HB := Lib.hid (up_later HB.out hb)
    have B1 := Lib.hid (B1.out.kept hb)
    clear hb
    have BB := B1.out
    have cB := fun i => BB.cell i
    have fB := fun i => BB.free i
    have lB := BB.lt
    have mB := Nat.lt_succ_of_lt lB
    go_wp2_with fail
    clear cB fB lB mB BB
    refine (awake_any _).mono ?_
    rintro e w9 ⟨rfl, hb⟩
    go_wp2_with fail
    go_ret
    exact ⟨rfl, up_later HB.out hb⟩
  · have HPl := Lib.hid (show planE b ls mo = ((bestI b ls mo).1, (bestI b ls mo).2, 0) by unfold planE; rw [if_neg (by simpa using hE), if_neg (by rw [hbm]; simp), if_neg c8])
    obtain ⟨hlen, hE2, hne⟩ := re_desk hE c8
    obtain ⟨L, hLe⟩ : ∃ L, (bestI b ls mo).1 = L := ⟨_, rfl⟩
    obtain ⟨N, hNe⟩ : ∃ N, (bestI b ls mo).2 = N := ⟨_, rfl⟩
    rw [hLe] at hlen hE2 hne HPl
    rw [hNe] at HPl
    obtain ⟨X, hX⟩ : ∃ X, exposedL (reBk b L) ls = X := ⟨_, rfl⟩
    have hXl : X.length = L.length := by rw [← hX]; unfold exposedL; rw [mapI_len]; rfl
    rw [hX] at hne
    have HXE := Lib.hid (show exposedE (reBk b L) ls = (X, 0) by unfold exposedE; rw [if_neg (by simpa using hE2), hX])
    have Hne := Lib.hid hne
    have Hlen := Lib.hid hlen
    have HXl := Lib.hid hXl
    have z1 : ((L.length : Int) == (b.ds.length : Int)) = true := by rw [beq_iff_eq]; omega
    have z2 : ((X.length : Int) == (L.length : Int)) = true := by rw [beq_iff_eq]; omega
    clear hr hE hbm hmo c8 h8 hLe hNe hX hne hE2 hlen hXl
    go_enter Try.func16, Try.ntmps16
    go_wp2_with fail
    refine (lossed_law _ _ b _ ls _ (HA.out.kept (up_alloc up0 _)) (HVA.out.kept (up_alloc up0 _))).mono ?_
    rintro e w1 ⟨rfl, hb⟩
    rw [Hr.out]
    have HB := Lib.hid (up_later (up_alloc (up0 (w := w)) (.cells #[iv b.n, iv b.w, .slice A1 b.ks.length cap1, .slice A2 b.ds.length cap2] 25)) hb)
    have B1 := Lib.hid ((Box.new (w := w) (t := 25) (cs := #[iv b.n, iv b.w, .slice A1 b.ks.length cap1, .slice A2 b.ds.length cap2]) rfl).kept hb)
    clear hb
    have BB := B1.out
    have cB := fun i => BB.cell i
    have fB := fun i => BB.free i
    have lB := BB.lt
    have mB := Nat.lt_succ_of_lt lB
    go_wp2_with fail
    clear cB fB lB mB BB
    refine (Book_any _ _ b _ (HL.out.kept HB.out)).mono ?_
    rintro e w2 ⟨a1, a2, rfl, hq, hb⟩
    have HQ := Lib.hid hq
    clear hq
    have HB := Lib.hid (up_later HB.out hb)
    have B1 := Lib.hid (B1.out.kept hb)
    clear hb
    unfold bookV
    have BB := B1.out
    have cB := fun i => BB.cell i
    have fB := fun i => BB.free i
    have lB := BB.lt
    have mB := Nat.lt_succ_of_lt lB
    go_wp2_with fail
    clear cB fB lB mB BB
    refine (Losses_any _ ls _ (HV.out.kept HB.out)).mono ?_
    rintro e w3 ⟨lv, rfl, hq, hb⟩
    have HP := Lib.hid hq
    have HQ := Lib.hid (HQ.out.kept hb)
    clear hq
    have HB := Lib.hid (up_later HB.out hb)
    have B1 := Lib.hid (B1.out.kept hb)
    clear hb
    have BB := B1.out
    have cB := fun i => BB.cell i
    have fB := fun i => BB.free i
    have lB := BB.lt
    have mB := Nat.lt_succ_of_lt lB
    go_wp2_with fail
    clear cB fB lB mB BB
    refine (Plan_any _ _ _ b ls (x % 9) _ HQ.out HP.out).mono ?_
    rintro e w4 ⟨pv, rfl, hq, hb⟩
    rw [HMo.out, HPl.out] at hq ⊢
    obtain ⟨_, Ap, cp, rfl, _, _⟩ := hq.form
    have HPL := Lib.hid hq
    clear hq HQ HP
    have HB := Lib.hid (up_later HB.out hb)
    have B1 := Lib.hid (B1.out.kept hb)
    clear hb
    have BB := B1.out
    have cB := fun i => BB.cell i
    have fB := fun i => BB.free i
    have lB := BB.lt
    have mB := Nat.lt_succ_of_lt lB
    go_wp2_with fail
    clear cB fB lB mB BB
    refine (Book_any _ _ b _ (HL.out.kept HB.out)).mono ?_
    rintro e w2 ⟨a1, a2, rfl, hq, hb⟩
    obtain ⟨_, Aq1, cq1, rfl, _, _⟩ := hq.ks.form
    obtain ⟨_, Aq2, cq2, rfl, _, _⟩ := hq.ds.form
    have HQ := Lib.hid hq
    clear hq
    have HB := Lib.hid (up_later HB.out hb)
    have B1 := Lib.hid (B1.out.kept hb)
    have HPL := Lib.hid (HPL.out.kept hb)
    clear hb
    unfold bookV
    have BB := B1.out
    have cB := fun i => BB.cell i
    have fB := fun i => BB.free i
    have lB := BB.lt
    have mB := Nat.lt_succ_of_lt lB
    go_wp2_with fail
    clear cB fB lB mB BB
    have N5 := Lib.hid (Box.new (w := w2) (t := 32) (cs := #[iv b.n, iv b.w, .slice Aq1 b.ks.length cq1, .slice Aq2 b.ds.length cq2]) rfl)
    have H5 := Lib.hid (up_alloc (up0 (w := w2)) (.cells #[iv b.n, iv b.w, .slice Aq1 b.ks.length cq1, .slice Aq2 b.ds.length cq2] 32))
    refine (list_own _ L _ (HPL.out.kept H5.out)).mono ?_
    rintro e w6 ⟨lv2, rfl, ho, hb⟩
    obtain ⟨Ao, po, rfl⟩ := own_form' ho
    have N6 := Lib.hid (N5.out.kept hb)
    have HO6 := Lib.hid (own_far (g := w2.heap.size) (i := 3) (u := .slice Ao L.length po) ho (by simp))
    have H6 := Lib.hid (up_put (up_later H5.out hb) (p := ⟨w2.heap.size, 3, none⟩) (Nat.le_refl _) (.slice Ao L.length po))
    clear ho hb N5 H5
    have N := N6.out
    have cN := fun i => N.cell i
    have fN := fun i => N.free i
    have lN := N.lt
    go_wp2_with fail
    clear cN fN lN N
    have N7 := Lib.hid (show Box (w6.setCell ⟨w2.heap.size, 3, none⟩ (.slice Ao L.length po)) w2.heap.size 32 #[iv b.n, iv b.w, .slice Aq1 b.ks.length cq1, .slice Ao L.length po] by simpa using N6.out.put 3 (.slice Ao L.length po))
    have HB := Lib.hid (up_later HB.out H6.out)
    have HPL := Lib.hid (HPL.out.kept H6.out)
    have HBK := Lib.hid (show BookAt (w6.setCell ⟨w2.heap.size, 3, none⟩ (.slice Ao L.length po)) (.slice Aq1 b.ks.length cq1) (.slice Ao L.length po) (reBk b L) from ⟨HQ.out.ks.kept H6.out, ints_of_own HO6.out rfl (by show L.length ≤ 1000; rw [Hlen.out]; omega)⟩)
    clear N6 H6 HO6 HQ B1
    have N := N7.out
    apply wp_region_by 9 [(Fact.eq _), (Fact.eq _), (Fact.row 2 Ls.cells ls), (Fact.exposed 0 X), (Fact.exposed 0 X), (Fact.owned 0 X.length (X.map iv)), (Fact.eq _), (Fact.owned 0 X.length (X.map iv)), (Fact.eq _)]
    case hm => kernel_rfl
    case hB => kernel_rfl
    case hA => (intro vs; simp only [List.take_succ_cons, List.take_zero, putAll, if_true, Act.put, List.setIfInBounds_toArray, List.set_cons_zero, List.set_cons_succ]; exact rfl)
    case hstep =>
      intro vs
      refine And.intro (fun w hw hd => ?_) ?_
      · refine ite_yes rfl ?_
        have c_N := fun i => (N.kept hw).cell i
        simp only [Gives]
        go_simp
        exact ⟨Below.refl _ _, rfl, fun h => by cases h⟩
      refine And.intro (fun w hw hd => ?_) ?_
      · refine ite_yes rfl ?_
        simp only [Gives]
        go_simp
        exact ⟨Below.refl _ _, rfl, fun h => by cases h⟩
      refine And.intro (fun w hw hd => ?_) ?_
      · have d1 := hd 1 (by decide) rfl
        change vs 1 = _ at d1
        refine ite_yes rfl ?_
        simp only [Gives]
        go_simp
        refine (Losses_any _ ls _ (HV.out.kept (up_later HB.out hw))).mono ?_
        rintro e w7 ⟨u, rfl, hq, hb⟩
        exact ⟨_, rfl, hb, hq, fun h => by cases h⟩
      refine And.intro (fun w hw hd => ?_) ?_
      · have d0 := hd 0 (by decide) rfl
        change vs 0 = _ at d0
        have d2 := hd 2 (by decide) rfl
        refine ite_yes rfl ?_
        simp only [Gives]
        go_simp
        refine (Exposed_any _ _ _ (reBk b L) ls _ (HBK.out.kept hw) d2).mono ?_
        rintro e w7 ⟨u, rfl, hq, hb⟩
        rw [HXE.out] at hq ⊢
        obtain ⟨A7, p7, rfl⟩ := own_form' hq
        exact ⟨_, rfl, hb, ⟨A7, p7, rfl, own_mono hq (Nat.zero_le _)⟩, fun h => by cases h⟩
      refine And.intro (fun w hw hd => ?_) ?_
      · have d3 := hd 3 (by decide) rfl
        obtain ⟨A9, p9, d3, O9⟩ := d3
        refine ite_yes rfl ?_
        simp only [Gives]
        go_simp
        exact ⟨Below.refl _ _, ⟨A9, p9, rfl, O9⟩, fun h => by cases h⟩
      refine And.intro (fun w hw hd => ?_) ?_
      · have d4 := hd 4 (by decide) rfl
        obtain ⟨A8, p8, d4, O8⟩ := d4
        refine ite_yes rfl ?_
        simp only [Gives]
        go_simp
        exact ⟨Below.refl _ _, ⟨A8, p8, rfl, O8⟩, fun h => by cases h⟩
      refine And.intro (fun w hw hd => ?_) ?_
      · have d4 := hd 4 (by decide) rfl
        obtain ⟨A8, p8, d4, O8⟩ := d4
        refine ite_yes rfl ?_
        simp only [Gives]
        go_simp
        exact ⟨Below.refl _ _, rfl, fun h => by cases h⟩
      refine And.intro (fun w hw hd => ?_) ?_
      · have d5 := hd 5 (by decide) rfl
        obtain ⟨A5, p5, d5, O5⟩ := d5
        refine ite_yes rfl ?_
        simp only [Gives]
        go_simp
        exact ⟨Below.refl _ _, ⟨A5, p5, rfl, O5⟩, fun h => by cases h⟩
      refine And.intro (fun w hw hd => ?_) ?_
      · have d6 := hd 6 (by decide) rfl
        change vs 6 = _ at d6
        refine ite_yes rfl ?_
        simp only [Gives]
        go_simp
        exact ⟨Below.refl _ _, rfl, fun h => by cases h⟩
      exact trivial
    intro vs wt hw hd hne hlo
    have d0 := hd 0 (by decide)
    change vs 0 = _ at d0
    have d1 := hd 1 (by decide)
    change vs 1 = _ at d1
    have d2 := hd 2 (by decide)
    have d3 := hd 3 (by decide)
    obtain ⟨A9, p9, d3, O9⟩ := d3
    have d4 := hd 4 (by decide)
    obtain ⟨A8, p8, d4, O8⟩ := d4
    have d5 := hd 5 (by decide)
    obtain ⟨A5, p5, d5, O5⟩ := d5
    have d6 := hd 6 (by decide)
    change vs 6 = _ at d6
    have d7 := hd 7 (by decide)
    obtain ⟨A7, p7, d7, O7⟩ := d7
    have d8 := hd 8 (by decide)
    change vs 8 = _ at d8
    simp only [d0, d1, d6, d8, List.drop_succ_cons, List.drop_nil]
    have N := N.kept hw
    have c_N := fun i => N.cell i
    have f_N := fun i => N.free i
    clear hd hne hlo d0 d1 d6 d8
    simp only [Nat.zero_add, Nat.reduceAdd, d3, d4, d5, d7]
    have HB := Lib.hid (up_later HB.out hw)
    have HX := Lib.hid (ints_of_own O7 rfl (by rw [HXl.out, Hlen.out]; omega))
    clear d3 d4 d5 d7 O9 O8 O5 O7 hw c_N f_N N HBK HPL HXE
    have hXlen : X.length ≤ 1000 := by rw [HXl.out, Hlen.out]; omega
    go_wp2_with fail
    go_loopw [13] (fun i wr => ∃ k : Nat, k ≤ X.length ∧ i = .int .i64 k ∧ Hid (Below wt.heap.size wt wr)) (fun i _ => X.length - (intOf i).toNat)
    case atStart => exact ⟨0, by omega, rfl, up0⟩
    case round =>
      obtain ⟨k, hk, rfl, H6⟩ := hrel
      have k0 : (0 : Int) ≤ (k : Int) := by omega
      by_cases hlt : k < X.length
      · obtain ⟨y, hy⟩ : ∃ y, X[k]? = some y := ⟨_, List.getElem?_eq_getElem hlt⟩
        have HR := Lib.hid (HX.out.kept H6.out)
        obtain ⟨b1, o1, rfl, hb1, _⟩ := HR.out.at rfl hy
        have k1 : (k : Int) < (X.length : Int) := by omega
        have q0 : wr.cell? ⟨b1, o1 + k, none⟩ = some (.int .i64 y) := by simpa using HR.out.cellAt hy (j := 0) rfl
        have hyk : (y == (k : Int)) = false := by rw [beq_eq_false_iff_ne]; intro e; exact Hne.out k (by rw [hy, e])
        clear hy
        go_wp2_with fail
        go_roundw
        case rel => exact ⟨k + 1, by omega, by go_num, H6.out⟩
        case measure => simp [intOf]; omega
      · have hk' : k = X.length := by omega
        have HB := Lib.hid (up_later HB.out H6.out)
        clear hk'
        go_wp2_with fail
        refine (awake_any _).mono ?_
        rintro e w9 ⟨rfl, hb⟩
        go_wp2_with fail
        go_ret
        exact ⟨rfl, up_later HB.out hb⟩
end Go.Proofs.Ytoenhkhfpbglhaa

namespace Go.Proofs.Ytoenhkhfpbglhaa
open Go.ChangeShapes Go.WideShapes Go.ChangeAt Go.RowKit

set_option maxRecDepth 100000 in
theorem cipherKept_lifted (os : Os) (started : os.Started) (H : Type) (enc : TypeId × Value → H) :
    ReturnsInHanded {} Try.checked os 16 .any (Rows.cipherKeptSpec.pre6 enc Try.prog Try.f16 Rows.cipherKeptRow.domain false) (Rows.cipherKeptSpec.post enc Try.prog Try.f16 false true false false) := by
  refine returnsInHanded_of_change (C := Try.checked) own_knob started (by kernel_rfl) Try.func16
    (ChangeSpec.witness6 (enc := enc) (C := Try.checked) false ⟨#[], #[.agg #[.int .i64 0, .int .i64 0, .slice Option.none 0 0, .slice Option.none 0 0], .slice Option.none 0 0, .int .u8 0], []⟩ 8 (by kernel_rfl) (by kernel_rfl) (by kernel_rfl) (by kernel_rfl)) ?_
  intro W base args ds gs before hval0 hW hcnd _
  have hval : ∀ (j : Nat) t v, Try.f16.params[j]? = some t → args[j]? = some v → Value.okWide Try.prog W .any base t v := hval0
  have hW' := hW
  obtain ⟨p, q, hA0, hV, rfl, hfz, hnd⟩ := hW
  have hA : DataW.TrodAll enc Try.prog W 0 (fun _ => true) true Try.f16.params.toList args.toList ds p := hA0
  rw [Try.params16] at hA hval
  have hlt : ∀ x ∈ p, x.block < W.heap.size := fun x hx => hW'.lt x (List.mem_append_left _ hx)
  have hAk := hA
  obtain ⟨v0, vs0, d0, ds0, p0, q0, hargs, rfl, rfl, h0, r0⟩ := trodAll_cons hA
  obtain ⟨v1, vs1, d1, ds1, p1, q1, rfl, rfl, rfl, h1, r1⟩ := trodAll_cons r0
  obtain ⟨v2, vs2, d2, ds2, p2, q2, rfl, rfl, rfl, h2, r2⟩ := trodAll_cons r1
  obtain ⟨rfl, rfl, rfl⟩ := trodAll_nil r2
  obtain rfl : args = #[v0, v1, v2] := by cases args; simp_all
  obtain ⟨rfl, rfl⟩ := trodVars_none hV
  obtain ⟨a2, rfl, rfl, rfl, w2⟩ := open_int Try.underlying5 (hval 2 5 v2 rfl rfl) h2
  obtain ⟨cs, rfl, _⟩ := okWide_struct und25 (hval 0 25 v0 rfl rfl)
  obtain ⟨fuel, h0⟩ := h0
  obtain ⟨u1, u2, b, hcs, hL⟩ := open_book h0
  obtain rfl : cs = #[iv b.n, iv b.w, u1, u2] := by
    have h : cs.toList = [iv b.n, iv b.w, u1, u2] := hcs
    cases cs
    simp at h
    rw [h]
  obtain ⟨ba1, len1, cap1, rfl⟩ := okWide_slice (show Try.prog.underlying 47 = some (.slice 93) by kernel_rfl) (hval 1 47 v1 rfl rfl)
  obtain ⟨fuel1, h1⟩ := h1
  obtain ⟨x1, l1, e1, hl1⟩ := open_losses h1
  obtain rfl : x1 = .slice ba1 len1 cap1 := by
    have h : [Value.slice ba1 len1 cap1] = [x1] := e1
    injection h with h _
    exact h.symm
  clear hA0 hval0 hval hA
  simp only [List.append_nil] at hW'
  simp only [List.append_nil] at hAk hlt
  refine (kept_law u1 u2 b _ l1 a2 W hL hl1 (bounds_u8 w2)).mono fun e W' ⟨he, hg⟩ => ?_
  subst he
  refine ⟨_, rfl, post_below (pv := []) hW' hg (fun _ _ _ => (trodAll_cons_mk (shut_bool Try.underlying4 _) trodAll_mk0)) (fun sp hsp => ?_) (fun _ _ => rfl) (List.append_nil _).symm
    (ok_one (by kernel_rfl) rfl (okWide_bool_mk Try.underlying4 _))⟩
  rw [Try.params16]
  refine args_stay laid_out hg (fun t ht => ?_) hAk hlt sp (fun x hx => hsp x (by first | exact hx | simpa using hx))
  simp only [List.mem_cons, List.not_mem_nil, or_false] at ht
  rcases ht with rfl | rfl | rfl
  · exact ⟨by kernel_rfl, by have h : decide (25 < Try.prog.types.size) = true := (by kernel_rfl); exact of_decide_eq_true h⟩
  · exact ⟨by kernel_rfl, by have h : decide (47 < Try.prog.types.size) = true := (by kernel_rfl); exact of_decide_eq_true h⟩
  · exact ⟨by kernel_rfl, by have h : decide (5 < Try.prog.types.size) = true := (by kernel_rfl); exact of_decide_eq_true h⟩

theorem cipherKept_over : Rows.cipherKeptRow.holds Try.pinned (OpenSpec.ofChange Rows.cipherKeptSpec) :=
  OpenClaim.holds_of_wide 16 Try.f16 rfl rfl rfl rfl rfl rfl rfl ⟨rfl, rfl, rfl, rfl, rfl⟩ rfl rfl rfl rfl rfl (by kernel_rfl) Try.func16 (by kernel_rfl)
    (of_decide_eq_true (by kernel_rfl)) (by unfold Func.isWrapper; first | (rw [if_pos (by decide +kernel)]; kernel_rfl) | (rw [if_neg (by decide +kernel)]; exact ⟨rfl, rfl⟩))
    (fun os started H enc _ => cipherKept_lifted os started H enc)

theorem CipherKept_holds : Rows.CipherKeptSaid := cipherKept_over

end Go.Proofs.Ytoenhkhfpbglhaa
