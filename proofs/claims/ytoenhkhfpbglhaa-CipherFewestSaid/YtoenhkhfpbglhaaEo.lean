/-
  CipherFewest holds: no right plan has fewer changes than the best one, nor as many and is before it. No condition.
-/
import Derived.Test.YtoenhkhfpbglhaaEn
import Derived.Test.YtoenhkhfpbglhaaDe
import Derived.Test.YtoenhkhfpbglhaaDj
import Derived.Test.YtoenhkhfpbglhaaDr
namespace Go.Proofs.Ytoenhkhfpbglhaa
open Go.RowKit Go.Shelf
attribute [local go_sem] Oper.semAt_some

/-- A byte. -/
structure By where
  z : Int
  lo : 0 ≤ z
  hi : z ≤ 255
def By.cells (x : By) : List Value := [.int .u8 x.z]
set_option maxRecDepth 100000 in
set_option maxHeartbeats 4000000 in
theorem fewest_law (v1 v2 : Value) (b : Bk) (v : Value) (ls : List Ls) (x : Int) (v3 : Value) (bs : List By) (w : World) (hL : BookAny w v1 v2 b) (hl : RowsAny w v 2 Ls.cells ls) (hx : 0 ≤ x ∧ x ≤ 255) (hbs : RowsAny w v3 1 By.cells bs) :
    Calls Try.prog 14 #[.agg #[iv b.n, iv b.w, v1, v2], v, .int .u8 x, v3] w fun e w' => e = .returned (.bool true) ∧ Below w.heap.size w w' := by
  obtain ⟨i0, hi0, hz0, hz1, hz2⟩ := info_parts int_info
  obtain ⟨A1, cap1, rfl, g1, g2⟩ := hL.ks.form
  obtain ⟨A2, cap2, rfl, g3, g4⟩ := hL.ds.form
  obtain ⟨A3, cap3, rfl, g5, g6⟩ := hl.form
  obtain ⟨A4, cap4, rfl, g7, g8⟩ := hbs.form
  obtain ⟨hx0, hx1⟩ := hx
  have HA := Lib.hid hL
  have HVA := Lib.hid hl
  have HBS := Lib.hid hbs
  clear hL hl hbs
  cases hr : lossedT b ls with
  | false =>
    have Hr := Lib.hid hr
    clear hr
    go_enter Try.func14, Try.ntmps14
    go_wp2_with fail
    refine (lossed_law _ _ b _ ls _ (HA.out.kept (up_alloc up0 _)) (HVA.out.kept (up_alloc up0 _))).mono ?_
    rintro e w1 ⟨rfl, hb⟩
    rw [Hr.out]
    have HB := Lib.hid (up_later (up_alloc (up0 (w := w)) (.cells #[iv b.n, iv b.w, .slice A1 b.ks.length cap1, .slice A2 b.ds.length cap2] 25)) hb)
    have B1 := Lib.hid ((Box.new (w := w) (t := 25) (cs := #[iv b.n, iv b.w, .slice A1 b.ks.length cap1, .slice A2 b.ds.length cap2]) rfl).kept hb)
    clear hb
    have BB := B1.out
    have cB := fun i => BB.cell i
    have fB := fun i => BB.free i
    have lB := BB.lt
    have mB := Nat.lt_succ_of_lt lB
    go_wp2_with fail
    clear cB fB lB mB BB
    refine (awake_any _).mono ?_
    rintro e w9 ⟨rfl, hb⟩
    go_wp2_with fail
    go_ret
    exact ⟨rfl, up_later HB.out hb⟩
  | true =>
  have Hr := Lib.hid hr
  obtain ⟨h8, h9, hE⟩ := lossedT_iff.1 hr
  have HL := Lib.hid (HA.out.at h8.1 h8.2)
  have HV := Lib.hid (HVA.out.rows (by omega))
  have hok := deskE_book hE
  have HOK := Lib.hid hok
  have hk5 := hok.k2
  have hk1 := hok.k1
  have hd8 := hok.d2
  have hd1 := hok.d1
  obtain ⟨mo, hmo⟩ : ∃ mo, x % 9 = mo := ⟨_, rfl⟩
  have hbm : belowB mo 9 = true := belowB_iff.2 (by omega)
  have hm0 : 0 ≤ mo := by omega
  have HMo := Lib.hid hmo
  have HE := Lib.hid hE
  have Hbm := Lib.hid hbm
  obtain ⟨L, N, E, hP, hcase⟩ : ∃ L N E, planE b ls mo = (L, N, E) ∧ ((E = 10 ∧ ∀ l, rightB b ls mo l = false) ∨ (E = 0 ∧ 0 ≤ N ∧ N ≤ 8 ∧ rightB b ls mo L = true ∧ chL (-1) L = N ∧ (∀ x ∈ L, 0 ≤ x) ∧ ∀ l, rightB b ls mo l = true → N ≤ chL (-1) l ∧ (chL (-1) l ≤ N → beforeB l L = false))) := by
    by_cases c8 : (bestI b ls mo).2 = 8
    · refine ⟨[], 0, 10, by unfold planE; rw [if_neg (by simpa using hE), if_neg (by rw [hbm]; simp), if_pos c8], .inl ⟨rfl, fun l => ?_⟩⟩
      cases hrr : rightB b ls mo l with
      | false => rfl
      | true => have := (best_holds hok hm0 hrr).1; omega
    · have hlim := bestI_lim b ls mo
      obtain ⟨r1, r2, r3⟩ := best_right hok hm0 c8
      refine ⟨_, _, _, by unfold planE; rw [if_neg (by simpa using hE), if_neg (by rw [hbm]; simp), if_neg c8], .inr ⟨rfl, hlim.1, hlim.2, r1, r2, r3, fun l hrr => (best_holds hok hm0 hrr).2⟩⟩
  have HPl := Lib.hid hP
  have Hcase := Lib.hid hcase
  clear hr hE hbm hmo h8 hok hP hcase
  go_enter Try.func14, Try.ntmps14
  go_wp2_with fail
  refine (lossed_law _ _ b _ ls _ (HA.out.kept (up_alloc up0 _)) (HVA.out.kept (up_alloc up0 _))).mono ?_
  rintro e w1 ⟨rfl, hb⟩
  rw [Hr.out]
  have HB := Lib.hid (up_later (up_alloc (up0 (w := w)) (.cells #[iv b.n, iv b.w, .slice A1 b.ks.length cap1, .slice A2 b.ds.length cap2] 25)) hb)
  have B1 := Lib.hid ((Box.new (w := w) (t := 25) (cs := #[iv b.n, iv b.w, .slice A1 b.ks.length cap1, .slice A2 b.ds.length cap2]) rfl).kept hb)
  clear hb
  have BB := B1.out
  have cB := fun i => BB.cell i
  have fB := fun i => BB.free i
  have lB := BB.lt
  have mB := Nat.lt_succ_of_lt lB
  go_wp2_with fail
  clear cB fB lB mB BB
  refine (Book_any _ _ b _ (HL.out.kept HB.out)).mono ?_
  rintro e w2 ⟨a1, a2, rfl, hq, hb⟩
  have HQ := Lib.hid hq
  clear hq
  have HB := Lib.hid (up_later HB.out hb)
  have B1 := Lib.hid (B1.out.kept hb)
  clear hb
  unfold bookV
  have BB := B1.out
  have cB := fun i => BB.cell i
  have fB := fun i => BB.free i
  have lB := BB.lt
  have mB := Nat.lt_succ_of_lt lB
  go_wp2_with fail
  clear cB fB lB mB BB
  refine (Losses_any _ ls _ (HV.out.kept HB.out)).mono ?_
  rintro e w3 ⟨lv, rfl, hq, hb⟩
  have HP := Lib.hid hq
  have HQ := Lib.hid (HQ.out.kept hb)
  clear hq
  have HB := Lib.hid (up_later HB.out hb)
  have B1 := Lib.hid (B1.out.kept hb)
  clear hb
  have BB := B1.out
  have cB := fun i => BB.cell i
  have fB := fun i => BB.free i
  have lB := BB.lt
  have mB := Nat.lt_succ_of_lt lB
  go_wp2_with fail
  clear cB fB lB mB BB
  refine (Plan_any _ _ _ b ls (x % 9) _ HQ.out HP.out).mono ?_
  rintro e w4 ⟨pv, rfl, hq, hb⟩
  rw [HMo.out, HPl.out] at hq ⊢
  obtain ⟨_, Ap, cp, rfl, _, _⟩ := hq.form
  have HPL := Lib.hid hq
  clear hq HQ HP
  have HB := Lib.hid (up_later HB.out hb)
  have B1 := Lib.hid (B1.out.kept hb)
  clear hb
  have BB := B1.out
  have cB := fun i => BB.cell i
  have fB := fun i => BB.free i
  have lB := BB.lt
  have mB := Nat.lt_succ_of_lt lB
  go_wp2_with fail
  clear cB fB lB mB BB
  obtain ⟨W7, hW7⟩ : ∃ W7, w4 = W7 := ⟨_, rfl⟩
  subst hW7
  go_loopw [13, 14] (fun u i wr => ∃ k : Nat, ∃ X : List Int, X.length = k ∧ k ≤ b.ds.length ∧ i = .int .i64 k ∧ Hid (∀ x ∈ X, 0 ≤ x ∧ x < b.ks.length) ∧ Hid (wr.ownsRow w4.heap.size 3 1 u k (X.map iv)) ∧ Hid (Below w4.heap.size w4 wr)) (fun _ i _ => b.ds.length - (intOf i).toNat)
  case atStart => exact ⟨0, [], rfl, by omega, rfl, Lib.hid (fun x h => by cases h), World.ownsRow_nil _ _ _ _, up0⟩
  case round =>
    obtain ⟨k, X, hXk, hk, rfl, HX, HO, H4⟩ := hrel
    have HXk := Lib.hid hXk
    have B1r := Lib.hid (B1.out.kept H4.out)
    have HBr := Lib.hid (up_later HB.out H4.out)
    have hszB := H4.out.size
    have k0 : (0 : Int) ≤ (k : Int) := by omega
    obtain ⟨Au, pu, rfl⟩ := own_form' HO.out
    clear hXk
    by_cases hkd : k < b.ds.length
    case neg =>
      have hkd' : ¬ (k : Int) < (b.ds.length : Int) := by omega
      have hXk2 := HXk.out
      have HXI := Lib.hid (ints_of_own HO.out HXk.out.symm (by omega))
      have HXn := Lib.hid (show ∀ x ∈ X, 0 ≤ x from fun x hx => (HX.out x hx).1)
      have HB := Lib.hid HBr.out
      have B1 := Lib.hid B1r.out
      have HPL := Lib.hid (HPL.out.kept H4.out)
      obtain ⟨is, his⟩ : ∃ is, rightB b ls mo X = is := ⟨_, rfl⟩
      have HIs := Lib.hid his
      clear HO HBr B1r H4 hszB hXk2 his
      have BB := B1.out
      have cB := fun i => BB.cell i
      have fB := fun i => BB.free i
      have lB := BB.lt
      have mB := Nat.lt_succ_of_lt lB
      go_wp2_with fail
      clear cB fB lB mB BB
      refine (RIsRight_any _ _ _ _ b ls mo X _ hm0 hk5 (HL.out.kept HB.out) (HV.out.kept HB.out) HXI.out).mono ?_
      rintro e w5 ⟨rfl, hb⟩
      rw [HIs.out]
      have HB := Lib.hid (up_later HB.out hb)
      have B1 := Lib.hid (B1.out.kept hb)
      have HPL := Lib.hid (HPL.out.kept hb)
      have HXI := Lib.hid (HXI.out.kept hb)
      clear hb
      rcases Hcase.out with ⟨hE10, hno⟩ | ⟨hE0, hN0, hN8, hr1, hr2, hr3, hall⟩
      · subst hE10
        obtain rfl : is = false := by rw [← HIs.out]; exact hno X
        clear hno Hcase
        have BB := B1.out
        have cB := fun i => BB.cell i
        have fB := fun i => BB.free i
        have lB := BB.lt
        have mB := Nat.lt_succ_of_lt lB
        go_wp2_with fail
        clear cB fB lB mB BB
        refine (awake_any _).mono ?_
        rintro e w9 ⟨rfl, hb⟩
        go_wp2_with fail
        go_ret
        exact ⟨rfl, up_later HB.out hb⟩
      · subst hE0
        have HR1 := Lib.hid hr1
        have HR2 := Lib.hid hr2
        have HR3 := Lib.hid hr3
        have HAll := Lib.hid (hall X)
        have Hpr1 := Lib.hid (show proveB b ls mo L N = true by unfold proveB; rw [decide_eq_true HE.out, Hbm.out, hr1, hr2, decide_eq_true (Int.le_refl N)]; rfl)
        have Hpr2 := Lib.hid (show proveB b ls mo L (N - 1) = false by unfold proveB; rw [hr2, decide_eq_false (show ¬ N ≤ N - 1 by omega)]; simp)
        have hWN : IntKind.i64.wrap (N - 1) = N - 1 := wrapK_in _ 1000 (by omega) (by omega)
        obtain ⟨m, hm⟩ : ∃ m, chL (-1) X = m := ⟨_, rfl⟩
        have Hm := Lib.hid hm
        clear hr1 hr2 hr3 hall Hcase hm
        have BB := B1.out
        have cB := fun i => BB.cell i
        have fB := fun i => BB.free i
        have lB := BB.lt
        have mB := Nat.lt_succ_of_lt lB
        go_wp2_with fail
        clear cB fB lB mB BB
        refine (RIsRight_any _ _ _ _ b ls mo L _ hm0 hk5 (HL.out.kept HB.out) (HV.out.kept HB.out) HPL.out).mono ?_
        rintro e w6 ⟨rfl, hb⟩
        rw [HR1.out]
        have HB := Lib.hid (up_later HB.out hb)
        have B1 := Lib.hid (B1.out.kept hb)
        have HPL := Lib.hid (HPL.out.kept hb)
        have HXI := Lib.hid (HXI.out.kept hb)
        clear hb
        have BB := B1.out
        have cB := fun i => BB.cell i
        have fB := fun i => BB.free i
        have lB := BB.lt
        have mB := Nat.lt_succ_of_lt lB
        go_wp2_with fail
        clear cB fB lB mB BB
        refine (RChanges_any _ L _ HPL.out HR3.out).mono ?_
        rintro e w7 ⟨rfl, hb⟩
        rw [HR2.out]
        have HB := Lib.hid (up_later HB.out hb)
        have B1 := Lib.hid (B1.out.kept hb)
        have HPL := Lib.hid (HPL.out.kept hb)
        have HXI := Lib.hid (HXI.out.kept hb)
        clear hb
        have BB := B1.out
        have cB := fun i => BB.cell i
        have fB := fun i => BB.free i
        have lB := BB.lt
        have mB := Nat.lt_succ_of_lt lB
        go_wp2_with fail
        clear cB fB lB mB BB
        refine (Book_any _ _ b _ (HL.out.kept HB.out)).mono ?_
        rintro e w2 ⟨a1, a2, rfl, hq, hb⟩
        have HQ := Lib.hid hq
        clear hq
        have HB := Lib.hid (up_later HB.out hb)
        have B1 := Lib.hid (B1.out.kept hb)
        have HPL := Lib.hid (HPL.out.kept hb)
        have HXI := Lib.hid (HXI.out.kept hb)
        clear hb
        unfold bookV
        have BB := B1.out
        have cB := fun i => BB.cell i
        have fB := fun i => BB.free i
        have lB := BB.lt
        have mB := Nat.lt_succ_of_lt lB
        go_wp2_with fail
        clear cB fB lB mB BB
        refine (Losses_any _ ls _ (HV.out.kept HB.out)).mono ?_
        rintro e w3 ⟨lv, rfl, hq, hb⟩
        have HP := Lib.hid hq
        have HQ := Lib.hid (HQ.out.kept hb)
        clear hq
        have HB := Lib.hid (up_later HB.out hb)
        have B1 := Lib.hid (B1.out.kept hb)
        have HPL := Lib.hid (HPL.out.kept hb)
        have HXI := Lib.hid (HXI.out.kept hb)
        clear hb
        have BB := B1.out
        have cB := fun i => BB.cell i
        have fB := fun i => BB.free i
        have lB := BB.lt
        have mB := Nat.lt_succ_of_lt lB
        go_wp2_with fail
        clear cB fB lB mB BB
        refine (list_any _ L _ HPL.out).mono ?_
        rintro e w3 ⟨mv, rfl, hq, hb⟩
        have HMV := Lib.hid hq
        have HQ := Lib.hid (HQ.out.kept hb)
        have HP := Lib.hid (HP.out.kept hb)
        clear hq
        have HB := Lib.hid (up_later HB.out hb)
        have B1 := Lib.hid (B1.out.kept hb)
        have HPL := Lib.hid (HPL.out.kept hb)
        have HXI := Lib.hid (HXI.out.kept hb)
        clear hb
        have BB := B1.out
        have cB := fun i => BB.cell i
        have fB := fun i => BB.free i
        have lB := BB.lt
        have mB := Nat.lt_succ_of_lt lB
        go_wp2_with fail
        clear cB fB lB mB BB
        refine (ProvePlan_any _ _ _ _ b ls mo L N _ HQ.out HP.out HMV.out).mono ?_
        rintro e w3 ⟨rfl, hb⟩
        rw [Hpr1.out]
        clear HQ HP HMV
        have HB := Lib.hid (up_later HB.out hb)
        have B1 := Lib.hid (B1.out.kept hb)
        have HPL := Lib.hid (HPL.out.kept hb)
        have HXI := Lib.hid (HXI.out.kept hb)
        clear hb
        have BB := B1.out
        have cB := fun i => BB.cell i
        have fB := fun i => BB.free i
        have lB := BB.lt
        have mB := Nat.lt_succ_of_lt lB
        go_wp2_with fail
        clear cB fB lB mB BB
        refine (Book_any _ _ b _ (HL.out.kept HB.out)).mono ?_
        rintro e w2 ⟨a1, a2, rfl, hq, hb⟩
        have HQ := Lib.hid hq
        clear hq
        have HB := Lib.hid (up_later HB.out hb)
        have B1 := Lib.hid (B1.out.kept hb)
        have HPL := Lib.hid (HPL.out.kept hb)
        have HXI := Lib.hid (HXI.out.kept hb)
        clear hb
        unfold bookV
        have BB := B1.out
        have cB := fun i => BB.cell i
        have fB := fun i => BB.free i
        have lB := BB.lt
        have mB := Nat.lt_succ_of_lt lB
        go_wp2_with fail
        clear cB fB lB mB BB
        refine (Losses_any _ ls _ (HV.out.kept HB.out)).mono ?_
        rintro e w3 ⟨lv, rfl, hq, hb⟩
        have HP := Lib.hid hq
        have HQ := Lib.hid (HQ.out.kept hb)
        clear hq
        have HB := Lib.hid (up_later HB.out hb)
        have B1 := Lib.hid (B1.out.kept hb)
        have HPL := Lib.hid (HPL.out.kept hb)
        have HXI := Lib.hid (HXI.out.kept hb)
        clear hb
        have BB := B1.out
        have cB := fun i => BB.cell i
        have fB := fun i => BB.free i
        have lB := BB.lt
        have mB := Nat.lt_succ_of_lt lB
        go_wp2_with fail
        clear cB fB lB mB BB
        refine (list_any _ L _ HPL.out).mono ?_
        rintro e w3 ⟨mv, rfl, hq, hb⟩
        have HMV := Lib.hid hq
        have HQ := Lib.hid (HQ.out.kept hb)
        have HP := Lib.hid (HP.out.kept hb)
        clear hq
        have HB := Lib.hid (up_later HB.out hb)
        have B1 := Lib.hid (B1.out.kept hb)
        have HPL := Lib.hid (HPL.out.kept hb)
        have HXI := Lib.hid (HXI.out.kept hb)
        clear hb
        have BB := B1.out
        have cB := fun i => BB.cell i
        have fB := fun i => BB.free i
        have lB := BB.lt
        have mB := Nat.lt_succ_of_lt lB
        go_wp2_with fail
        clear cB fB lB mB BB
        refine (ProvePlan_any _ _ _ _ b ls mo L (N - 1) _ HQ.out HP.out HMV.out).mono ?_
        rintro e w3 ⟨rfl, hb⟩
        rw [Hpr2.out]
        clear HQ HP HMV
        have HB := Lib.hid (up_later HB.out hb)
        have B1 := Lib.hid (B1.out.kept hb)
        have HPL := Lib.hid (HPL.out.kept hb)
        have HXI := Lib.hid (HXI.out.kept hb)
        clear hb
        have BB := B1.out
        have cB := fun i => BB.cell i
        have fB := fun i => BB.free i
        have lB := BB.lt
        have mB := Nat.lt_succ_of_lt lB
        go_wp2_with fail
        clear cB fB lB mB BB
        refine (RChanges_any _ X _ HXI.out HXn.out).mono ?_
        rintro e w8 ⟨rfl, hb⟩
        rw [Hm.out]
        have HB := Lib.hid (up_later HB.out hb)
        have B1 := Lib.hid (B1.out.kept hb)
        have HPL := Lib.hid (HPL.out.kept hb)
        have HXI := Lib.hid (HXI.out.kept hb)
        clear hb
        cases is with
        | false =>
          have BB := B1.out
          have cB := fun i => BB.cell i
          have fB := fun i => BB.free i
          have lB := BB.lt
          have mB := Nat.lt_succ_of_lt lB
          go_wp2_with fail
          clear cB fB lB mB BB
          refine (awake_any _).mono ?_
          rintro e w9 ⟨rfl, hb⟩
          go_wp2_with fail
          go_ret
          exact ⟨rfl, up_later HB.out hb⟩
        | true =>
          have hNm := (HAll.out HIs.out).1
          rw [Hm.out] at hNm
          by_cases hgt : N < m
          · clear hNm
            have BB := B1.out
            have cB := fun i => BB.cell i
            have fB := fun i => BB.free i
            have lB := BB.lt
            have mB := Nat.lt_succ_of_lt lB
            go_wp2_with fail
            clear cB fB lB mB BB
            refine (awake_any _).mono ?_
            rintro e w9 ⟨rfl, hb⟩
            go_wp2_with fail
            go_ret
            exact ⟨rfl, up_later HB.out hb⟩
          · have Hbf := Lib.hid ((HAll.out HIs.out).2 (by rw [Hm.out]; omega))
            have emN : (m == N) = true := by rw [beq_iff_eq]; omega
            clear hNm
            have BB := B1.out
            have cB := fun i => BB.cell i
            have fB := fun i => BB.free i
            have lB := BB.lt
            have mB := Nat.lt_succ_of_lt lB
            go_wp2_with fail
            clear cB fB lB mB BB
            refine (Lbefore_any _ _ X L _ HXI.out HPL.out).mono ?_
            rintro e w9 ⟨rfl, hb⟩
            rw [Hbf.out]
            have HB := Lib.hid (up_later HB.out hb)
            clear hb
            go_wp2_with fail
            refine (awake_any _).mono ?_
            rintro e w9 ⟨rfl, hb⟩
            go_wp2_with fail
            go_ret
            exact ⟨rfl, up_later HB.out hb⟩
    have hkd' : (k : Int) < (b.ds.length : Int) := by omega
    by_cases hbl : 0 < bs.length
    case neg =>
      have hbl' : ¬ (0 : Int) < (bs.length : Int) := by omega
      have hbn : bs = [] := List.eq_nil_of_length_eq_zero (by omega)
      have Hbn := Lib.hid hbn
      clear hbn
      have hXk2 := HXk.out
      have HXI := Lib.hid (ints_of_own HO.out HXk.out.symm (by omega))
      have HXn := Lib.hid (show ∀ x ∈ X, 0 ≤ x from fun x hx => (HX.out x hx).1)
      have HB := Lib.hid HBr.out
      have B1 := Lib.hid B1r.out
      have HPL := Lib.hid (HPL.out.kept H4.out)
      obtain ⟨is, his⟩ : ∃ is, rightB b ls mo X = is := ⟨_, rfl⟩
      have HIs := Lib.hid his
      clear HO HBr B1r H4 hszB hXk2 his
      have BB := B1.out
      have cB := fun i => BB.cell i
      have fB := fun i => BB.free i
      have lB := BB.lt
      have mB := Nat.lt_succ_of_lt lB
      go_wp2_with fail
      clear cB fB lB mB BB
      refine (RIsRight_any _ _ _ _ b ls mo X _ hm0 hk5 (HL.out.kept HB.out) (HV.out.kept HB.out) HXI.out).mono ?_
      rintro e w5 ⟨rfl, hb⟩
      rw [HIs.out]
      have HB := Lib.hid (up_later HB.out hb)
      have B1 := Lib.hid (B1.out.kept hb)
      have HPL := Lib.hid (HPL.out.kept hb)
      have HXI := Lib.hid (HXI.out.kept hb)
      clear hb
      rcases Hcase.out with ⟨hE10, hno⟩ | ⟨hE0, hN0, hN8, hr1, hr2, hr3, hall⟩
      · subst hE10
        obtain rfl : is = false := by rw [← HIs.out]; exact hno X
        clear hno Hcase
        have BB := B1.out
        have cB := fun i => BB.cell i
        have fB := fun i => BB.free i
        have lB := BB.lt
        have mB := Nat.lt_succ_of_lt lB
        go_wp2_with fail
        clear cB fB lB mB BB
        refine (awake_any _).mono ?_
        rintro e w9 ⟨rfl, hb⟩
        go_wp2_with fail
        go_ret
        exact ⟨rfl, up_later HB.out hb⟩
      · subst hE0
        have HR1 := Lib.hid hr1
        have HR2 := Lib.hid hr2
        have HR3 := Lib.hid hr3
        have HAll := Lib.hid (hall X)
        have Hpr1 := Lib.hid (show proveB b ls mo L N = true by unfold proveB; rw [decide_eq_true HE.out, Hbm.out, hr1, hr2, decide_eq_true (Int.le_refl N)]; rfl)
        have Hpr2 := Lib.hid (show proveB b ls mo L (N - 1) = false by unfold proveB; rw [hr2, decide_eq_false (show ¬ N ≤ N - 1 by omega)]; simp)
        have hWN : IntKind.i64.wrap (N - 1) = N - 1 := wrapK_in _ 1000 (by omega) (by omega)
        obtain ⟨m, hm⟩ : ∃ m, chL (-1) X = m := ⟨_, rfl⟩
        have Hm := Lib.hid hm
        clear hr1 hr2 hr3 hall Hcase hm
        have BB := B1.out
        have cB := fun i => BB.cell i
        have fB := fun i => BB.free i
        have lB := BB.lt
        have mB := Nat.lt_succ_of_lt lB
        go_wp2_with fail
        clear cB fB lB mB BB
        refine (RIsRight_any _ _ _ _ b ls mo L _ hm0 hk5 (HL.out.kept HB.out) (HV.out.kept HB.out) HPL.out).mono ?_
        rintro e w6 ⟨rfl, hb⟩
        rw [HR1.out]
        have HB := Lib.hid (up_later HB.out hb)
        have B1 := Lib.hid (B1.out.kept hb)
        have HPL := Lib.hid (HPL.out.kept hb)
        have HXI := Lib.hid (HXI.out.kept hb)
        clear hb
        have BB := B1.out
        have cB := fun i => BB.cell i
        have fB := fun i => BB.free i
        have lB := BB.lt
        have mB := Nat.lt_succ_of_lt lB
        go_wp2_with fail
        clear cB fB lB mB BB
        refine (RChanges_any _ L _ HPL.out HR3.out).mono ?_
        rintro e w7 ⟨rfl, hb⟩
        rw [HR2.out]
        have HB := Lib.hid (up_later HB.out hb)
        have B1 := Lib.hid (B1.out.kept hb)
        have HPL := Lib.hid (HPL.out.kept hb)
        have HXI := Lib.hid (HXI.out.kept hb)
        clear hb
        have BB := B1.out
        have cB := fun i => BB.cell i
        have fB := fun i => BB.free i
        have lB := BB.lt
        have mB := Nat.lt_succ_of_lt lB
        go_wp2_with fail
        clear cB fB lB mB BB
        refine (Book_any _ _ b _ (HL.out.kept HB.out)).mono ?_
        rintro e w2 ⟨a1, a2, rfl, hq, hb⟩
        have HQ := Lib.hid hq
        clear hq
        have HB := Lib.hid (up_later HB.out hb)
        have B1 := Lib.hid (B1.out.kept hb)
        have HPL := Lib.hid (HPL.out.kept hb)
        have HXI := Lib.hid (HXI.out.kept hb)
        clear hb
        unfold bookV
        have BB := B1.out
        have cB := fun i => BB.cell i
        have fB := fun i => BB.free i
        have lB := BB.lt
        have mB := Nat.lt_succ_of_lt lB
        go_wp2_with fail
        clear cB fB lB mB BB
        refine (Losses_any _ ls _ (HV.out.kept HB.out)).mono ?_
        rintro e w3 ⟨lv, rfl, hq, hb⟩
        have HP := Lib.hid hq
        have HQ := Lib.hid (HQ.out.kept hb)
        clear hq
        have HB := Lib.hid (up_later HB.out hb)
        have B1 := Lib.hid (B1.out.kept hb)
        have HPL := Lib.hid (HPL.out.kept hb)
        have HXI := Lib.hid (HXI.out.kept hb)
        clear hb
        have BB := B1.out
        have cB := fun i => BB.cell i
        have fB := fun i => BB.free i
        have lB := BB.lt
        have mB := Nat.lt_succ_of_lt lB
        go_wp2_with fail
        clear cB fB lB mB BB
        refine (list_any _ L _ HPL.out).mono ?_
        rintro e w3 ⟨mv, rfl, hq, hb⟩
        have HMV := Lib.hid hq
        have HQ := Lib.hid (HQ.out.kept hb)
        have HP := Lib.hid (HP.out.kept hb)
        clear hq
        have HB := Lib.hid (up_later HB.out hb)
        have B1 := Lib.hid (B1.out.kept hb)
        have HPL := Lib.hid (HPL.out.kept hb)
        have HXI := Lib.hid (HXI.out.kept hb)
        clear hb
        have BB := B1.out
        have cB := fun i => BB.cell i
        have fB := fun i => BB.free i
        have lB := BB.lt
        have mB := Nat.lt_succ_of_lt lB
        go_wp2_with fail
        clear cB fB lB mB BB
        refine (ProvePlan_any _ _ _ _ b ls mo L N _ HQ.out HP.out HMV.out).mono ?_
        rintro e w3 ⟨rfl, hb⟩
        rw [Hpr1.out]
        clear HQ HP HMV
        have HB := Lib.hid (up_later HB.out hb)
        have B1 := Lib.hid (B1.out.kept hb)
        have HPL := Lib.hid (HPL.out.kept hb)
        have HXI := Lib.hid (HXI.out.kept hb)
        clear hb
        have BB := B1.out
        have cB := fun i => BB.cell i
        have fB := fun i => BB.free i
        have lB := BB.lt
        have mB := Nat.lt_succ_of_lt lB
        go_wp2_with fail
        clear cB fB lB mB BB
        refine (Book_any _ _ b _ (HL.out.kept HB.out)).mono ?_
        rintro e w2 ⟨a1, a2, rfl, hq, hb⟩
        have HQ := Lib.hid hq
        clear hq
        have HB := Lib.hid (up_later HB.out hb)
        have B1 := Lib.hid (B1.out.kept hb)
        have HPL := Lib.hid (HPL.out.kept hb)
        have HXI := Lib.hid (HXI.out.kept hb)
        clear hb
        unfold bookV
        have BB := B1.out
        have cB := fun i => BB.cell i
        have fB := fun i => BB.free i
        have lB := BB.lt
        have mB := Nat.lt_succ_of_lt lB
        go_wp2_with fail
        clear cB fB lB mB BB
        refine (Losses_any _ ls _ (HV.out.kept HB.out)).mono ?_
        rintro e w3 ⟨lv, rfl, hq, hb⟩
        have HP := Lib.hid hq
        have HQ := Lib.hid (HQ.out.kept hb)
        clear hq
        have HB := Lib.hid (up_later HB.out hb)
        have B1 := Lib.hid (B1.out.kept hb)
        have HPL := Lib.hid (HPL.out.kept hb)
        have HXI := Lib.hid (HXI.out.kept hb)
        clear hb
        have BB := B1.out
        have cB := fun i => BB.cell i
        have fB := fun i => BB.free i
        have lB := BB.lt
        have mB := Nat.lt_succ_of_lt lB
        go_wp2_with fail
        clear cB fB lB mB BB
        refine (list_any _ L _ HPL.out).mono ?_
        rintro e w3 ⟨mv, rfl, hq, hb⟩
        have HMV := Lib.hid hq
        have HQ := Lib.hid (HQ.out.kept hb)
        have HP := Lib.hid (HP.out.kept hb)
        clear hq
        have HB := Lib.hid (up_later HB.out hb)
        have B1 := Lib.hid (B1.out.kept hb)
        have HPL := Lib.hid (HPL.out.kept hb)
        have HXI := Lib.hid (HXI.out.kept hb)
        clear hb
        have BB := B1.out
        have cB := fun i => BB.cell i
        have fB := fun i => BB.free i
        have lB := BB.lt
        have mB := Nat.lt_succ_of_lt lB
        go_wp2_with fail
        clear cB fB lB mB BB
        refine (ProvePlan_any _ _ _ _ b ls mo L (N - 1) _ HQ.out HP.out HMV.out).mono ?_
        rintro e w3 ⟨rfl, hb⟩
        rw [Hpr2.out]
        clear HQ HP HMV
        have HB := Lib.hid (up_later HB.out hb)
        have B1 := Lib.hid (B1.out.kept hb)
        have HPL := Lib.hid (HPL.out.kept hb)
        have HXI := Lib.hid (HXI.out.kept hb)
        clear hb
        have BB := B1.out
        have cB := fun i => BB.cell i
        have fB := fun i => BB.free i
        have lB := BB.lt
        have mB := Nat.lt_succ_of_lt lB
        go_wp2_with fail
        clear cB fB lB mB BB
        refine (RChanges_any _ X _ HXI.out HXn.out).mono ?_
        rintro e w8 ⟨rfl, hb⟩
        rw [Hm.out]
        have HB := Lib.hid (up_later HB.out hb)
        have B1 := Lib.hid (B1.out.kept hb)
        have HPL := Lib.hid (HPL.out.kept hb)
        have HXI := Lib.hid (HXI.out.kept hb)
        clear hb
        cases is with
        | false =>
          have BB := B1.out
          have cB := fun i => BB.cell i
          have fB := fun i => BB.free i
          have lB := BB.lt
          have mB := Nat.lt_succ_of_lt lB
          go_wp2_with fail
          clear cB fB lB mB BB
          refine (awake_any _).mono ?_
          rintro e w9 ⟨rfl, hb⟩
          go_wp2_with fail
          go_ret
          exact ⟨rfl, up_later HB.out hb⟩
        | true =>
          have hNm := (HAll.out HIs.out).1
          rw [Hm.out] at hNm
          by_cases hgt : N < m
          · clear hNm
            have BB := B1.out
            have cB := fun i => BB.cell i
            have fB := fun i => BB.free i
            have lB := BB.lt
            have mB := Nat.lt_succ_of_lt lB
            go_wp2_with fail
            clear cB fB lB mB BB
            refine (awake_any _).mono ?_
            rintro e w9 ⟨rfl, hb⟩
            go_wp2_with fail
            go_ret
            exact ⟨rfl, up_later HB.out hb⟩
          · have Hbf := Lib.hid ((HAll.out HIs.out).2 (by rw [Hm.out]; omega))
            have emN : (m == N) = true := by rw [beq_iff_eq]; omega
            clear hNm
            have BB := B1.out
            have cB := fun i => BB.cell i
            have fB := fun i => BB.free i
            have lB := BB.lt
            have mB := Nat.lt_succ_of_lt lB
            go_wp2_with fail
            clear cB fB lB mB BB
            refine (Lbefore_any _ _ X L _ HXI.out HPL.out).mono ?_
            rintro e w9 ⟨rfl, hb⟩
            rw [Hbf.out]
            have HB := Lib.hid (up_later HB.out hb)
            clear hb
            go_wp2_with fail
            refine (awake_any _).mono ?_
            rintro e w9 ⟨rfl, hb⟩
            go_wp2_with fail
            go_ret
            exact ⟨rfl, up_later HB.out hb⟩
    have hbl' : (0 : Int) < (bs.length : Int) := by omega
    obtain ⟨j, hj⟩ : ∃ j, k % bs.length = j := ⟨_, rfl⟩
    have hjl : j < bs.length := by rw [← hj]; exact Nat.mod_lt _ hbl
    obtain ⟨y, hy⟩ : ∃ y, bs[j]? = some y := ⟨_, List.getElem?_eq_getElem hjl⟩
    have hT : (k : Int).tmod (bs.length : Int) = (j : Int) := by rw [Int.tmod_eq_emod_of_nonneg k0, ← hj]; exact (Int.natCast_emod _ _).symm
    obtain ⟨z, lo, hi⟩ := y
    have HBr4 := Lib.hid (HBS.out.kept HBr.out)
    obtain ⟨b4, o4, e4, _, hc4⟩ := HBr4.out.at rfl hy
    subst e4
    have q0 : wr.cell? ⟨b4, o4 + j, none⟩ = some (.int .u8 z) := by simpa using hc4 0 _ rfl
    have hWz : IntKind.i64.wrap z = z := wrapK_in _ 1000 (by omega) (by omega)
    have hb1 : ¬ (bs.length : Int) = 0 := by omega
    have hb2 : ((bs.length : Int) == 0) = false := by rw [beq_eq_false_iff_ne]; omega
    have hb3 : ¬ bs = [] := fun e => by rw [e] at hbl; simp at hbl
    have hj0 : (0 : Int) ≤ (j : Int) := by omega
    have hj1 : (j : Int) < (bs.length : Int) := by omega
    have hk20 : k ≤ 20 := by omega
    clear hj hjl hy hc4
    have N := B1r.out
    have cN := fun i => N.cell i
    by_cases hcp : 0 < k ∧ 128 ≤ z
    · obtain ⟨hk0, hz8⟩ := hcp
      have hk0' : (0 : Int) < (k : Int) := by omega
      obtain ⟨gu, pu', eu, _, _⟩ := own_some HO.out hk0
      injection eu with eu1 _ _
      subst eu1
      obtain ⟨q, hq⟩ : ∃ q, k - 1 = q := ⟨_, rfl⟩
      have hWq : IntKind.i64.wrap ((k : Int) - 1) = (q : Int) := by rw [show (q : Int) = (k : Int) - 1 by omega]; exact wrapK_in _ 1000 (by omega) (by omega)
      obtain ⟨y2, hy2⟩ : ∃ y2, X[q]? = some y2 := ⟨_, List.getElem?_eq_getElem (by have := HXk.out; omega)⟩
      have hy2i := HX.out y2 (List.mem_of_getElem? hy2)
      have q1 : wr.cell? ⟨gu, q, none⟩ = some (.int .i64 y2) := own_cell HO.out (map_some hy2)
      have hq0 : (0 : Int) ≤ (q : Int) := by omega
      have hq1 : (q : Int) < (k : Int) := by omega
      clear hq hy2
      go_wp2_with (at_builtin; refine wpList_append_own_at _ rfl (.tmp 62) (.tmp 68) 23 rfl w4.heap.size 3 i0 _ 1 8 Try.underlying23 hi0 hz0 hz1 hz2 rfl (by decide) _ _ _ rfl (HO.out.alloc _) ⟨wr.heap.size, 0, none⟩ 1 1 [iv y2] rfl rfl (cell_one_new _ _ _) (by simp [Value.oneCell']) (by unfold maxLen; omega) (by omega) (by simp; omega) ?_; intro v' w5 hown' hgrow _ _)
      clear cN N q0 q1
      go_roundw
      case rel =>
        refine ⟨k + 1, X ++ [y2], by have := HXk.out; simp; omega, by omega, by go_num, Lib.hid (fun x hx => ?_), ?_, (up_alloc H4.out (.cells #[iv y2] 3)).grown hgrow (by simp; omega) fun g e => ((HO.out.alloc (.cells #[iv y2] 3)).lt g e).1⟩
        · rcases List.mem_append.1 hx with h | h
          · exact HX.out x h
          · rw [List.mem_singleton.1 h]; exact hy2i
        · rw [List.map_append]
          exact hown'
      case measure => simp [intOf]; omega
    · obtain ⟨r, hrr⟩ : ∃ r, z % (b.ks.length : Int) = r := ⟨_, rfl⟩
      have hr0 : 0 ≤ r ∧ r < b.ks.length := ⟨by rw [← hrr]; exact Int.emod_nonneg _ (by omega), by rw [← hrr]; exact Int.emod_lt_of_pos _ (by omega)⟩
      have hTr : z.tmod (b.ks.length : Int) = r := by rw [Int.tmod_eq_emod_of_nonneg lo]; exact hrr
      have hkk1 : ¬ (b.ks.length : Int) = 0 := by omega
      have hkk2 : ((b.ks.length : Int) == 0) = false := by rw [beq_eq_false_iff_ne]; omega
      have hkk3 : ¬ b.ks = [] := fun e => by rw [e] at hk1; simp at hk1
      clear hrr
      by_cases hk0 : 0 < k
      · have hk0' : (0 : Int) < (k : Int) := by omega
        have hz8 : ¬ 128 ≤ z := fun h => hcp ⟨hk0, h⟩
        clear hcp
        go_wp2_with (at_builtin; refine wpList_append_own_at _ rfl (.tmp 70) (.tmp 76) 23 rfl w4.heap.size 3 i0 _ 1 8 Try.underlying23 hi0 hz0 hz1 hz2 rfl (by decide) _ _ _ rfl (HO.out.alloc _) ⟨wr.heap.size, 0, none⟩ 1 1 [iv r] rfl rfl (cell_one_new _ _ _) (by simp [Value.oneCell']) (by unfold maxLen; omega) (by omega) (by simp; omega) ?_; intro v' w5 hown' hgrow _ _)
        clear cN N q0
        go_roundw
        case rel =>
          refine ⟨k + 1, X ++ [r], by have := HXk.out; simp; omega, by omega, by go_num, Lib.hid (fun x hx => ?_), ?_, (up_alloc H4.out (.cells #[iv r] 3)).grown hgrow (by simp; omega) fun g e => ((HO.out.alloc (.cells #[iv r] 3)).lt g e).1⟩
          · rcases List.mem_append.1 hx with h | h
            · exact HX.out x h
            · rw [List.mem_singleton.1 h]; exact hr0
          · rw [List.map_append]
            exact hown'
        case measure => simp [intOf]; omega
      · have hk0' : ¬ (0 : Int) < (k : Int) := by omega
        have hke : k = 0 := by omega
        have Hke := Lib.hid hke
        clear hke
        clear hcp
        go_wp2_with (at_builtin; refine wpList_append_own_at _ rfl (.tmp 70) (.tmp 76) 23 rfl w4.heap.size 3 i0 _ 1 8 Try.underlying23 hi0 hz0 hz1 hz2 rfl (by decide) _ _ _ rfl (HO.out.alloc _) ⟨wr.heap.size, 0, none⟩ 1 1 [iv r] rfl rfl (cell_one_new _ _ _) (by simp [Value.oneCell']) (by unfold maxLen; omega) (by omega) (by simp; omega) ?_; intro v' w5 hown' hgrow _ _)
        clear cN N q0
        go_roundw
        case rel =>
          refine ⟨k + 1, X ++ [r], by have := HXk.out; simp; omega, by omega, by go_num, Lib.hid (fun x hx => ?_), ?_, (up_alloc H4.out (.cells #[iv r] 3)).grown hgrow (by simp; omega) fun g e => ((HO.out.alloc (.cells #[iv r] 3)).lt g e).1⟩
          · rcases List.mem_append.1 hx with h | h
            · exact HX.out x h
            · rw [List.mem_singleton.1 h]; exact hr0
          · rw [List.map_append]
            exact hown'
        case measure => simp [intOf]; omega
end Go.Proofs.Ytoenhkhfpbglhaa

namespace Go.Proofs.Ytoenhkhfpbglhaa
open Go.ChangeShapes Go.WideShapes Go.ChangeAt Go.RowKit
section
variable {H : Type} {enc : TypeId × Value → H} {W : World} {base : Nat} {spare : Nat → Bool} {held : Bool}
theorem open_byte {fuel : Nat} {cs : List Value} {x : DataW H × List MemPlace} (h : DataW.trod enc Try.prog W base spare held fuel 5 cs = some x) : ∃ k : By, cs = k.cells ∧ True := by
  obtain ⟨z, hz, _, hw⟩ := DataW.trod_int Try.underlying5 h
  have hb := bounds_u8 hw
  exact ⟨⟨z, hb.1, hb.2⟩, hz, trivial⟩
theorem open_bytes {fuel : Nat} {cs : List Value} {x : DataW H × List MemPlace} (h : DataW.trod enc Try.prog W base spare held fuel 90 cs = some x) : ∃ v l, cs = [v] ∧ RowsAny W v 1 By.cells l := by
  obtain ⟨v, l, e, r, _⟩ := open_rows (e := 5) (sz := 1) (cells := By.cells) (p := fun _ => True) (by kernel_rfl) (by kernel_rfl) (by omega) (fun _ _ _ h => open_byte h) h
  exact ⟨v, l, e, r⟩
end
end Go.Proofs.Ytoenhkhfpbglhaa

namespace Go.Proofs.Ytoenhkhfpbglhaa
open Go.ChangeShapes Go.WideShapes Go.ChangeAt Go.RowKit

set_option maxRecDepth 100000 in
theorem cipherFewest_lifted (os : Os) (started : os.Started) (H : Type) (enc : TypeId × Value → H) :
    ReturnsInHanded {} Try.checked os 14 .any (Rows.cipherFewestSpec.pre6 enc Try.prog Try.f14 Rows.cipherFewestRow.domain false) (Rows.cipherFewestSpec.post enc Try.prog Try.f14 false true false false) := by
  refine returnsInHanded_of_change (C := Try.checked) own_knob started (by kernel_rfl) Try.func14
    (ChangeSpec.witness6 (enc := enc) (C := Try.checked) false ⟨#[], #[.agg #[.int .i64 0, .int .i64 0, .slice Option.none 0 0, .slice Option.none 0 0], .slice Option.none 0 0, .int .u8 0, .slice Option.none 0 0], []⟩ 8 (by kernel_rfl) (by kernel_rfl) (by kernel_rfl) (by kernel_rfl)) ?_
  intro W base args ds gs before hval0 hW hcnd _
  have hval : ∀ (j : Nat) t v, Try.f14.params[j]? = some t → args[j]? = some v → Value.okWide Try.prog W .any base t v := hval0
  have hW' := hW
  obtain ⟨p, q, hA0, hV, rfl, hfz, hnd⟩ := hW
  have hA : DataW.TrodAll enc Try.prog W 0 (fun _ => true) true Try.f14.params.toList args.toList ds p := hA0
  rw [Try.params14] at hA hval
  have hlt : ∀ x ∈ p, x.block < W.heap.size := fun x hx => hW'.lt x (List.mem_append_left _ hx)
  have hAk := hA
  obtain ⟨v0, vs0, d0, ds0, p0, q0, hargs, rfl, rfl, h0, r0⟩ := trodAll_cons hA
  obtain ⟨v1, vs1, d1, ds1, p1, q1, rfl, rfl, rfl, h1, r1⟩ := trodAll_cons r0
  obtain ⟨v2, vs2, d2, ds2, p2, q2, rfl, rfl, rfl, h2, r2⟩ := trodAll_cons r1
  obtain ⟨v3, vs3, d3, ds3, p3, q3, rfl, rfl, rfl, h3, r3⟩ := trodAll_cons r2
  obtain ⟨rfl, rfl, rfl⟩ := trodAll_nil r3
  obtain rfl : args = #[v0, v1, v2, v3] := by cases args; simp_all
  obtain ⟨rfl, rfl⟩ := trodVars_none hV
  obtain ⟨a2, rfl, rfl, rfl, w2⟩ := open_int Try.underlying5 (hval 2 5 v2 rfl rfl) h2
  obtain ⟨cs, rfl, _⟩ := okWide_struct und25 (hval 0 25 v0 rfl rfl)
  obtain ⟨fuel, h0⟩ := h0
  obtain ⟨u1, u2, b, hcs, hL⟩ := open_book h0
  obtain rfl : cs = #[iv b.n, iv b.w, u1, u2] := by
    have h : cs.toList = [iv b.n, iv b.w, u1, u2] := hcs
    cases cs
    simp at h
    rw [h]
  obtain ⟨ba1, len1, cap1, rfl⟩ := okWide_slice (show Try.prog.underlying 47 = some (.slice 93) by kernel_rfl) (hval 1 47 v1 rfl rfl)
  obtain ⟨fuel1, h1⟩ := h1
  obtain ⟨x1, l1, e1, hl1⟩ := open_losses h1
  obtain rfl : x1 = .slice ba1 len1 cap1 := by
    have h : [Value.slice ba1 len1 cap1] = [x1] := e1
    injection h with h _
    exact h.symm
  obtain ⟨ba3, len3, cap3, rfl⟩ := okWide_slice (show Try.prog.underlying 90 = some (.slice 5) by kernel_rfl) (hval 3 90 v3 rfl rfl)
  obtain ⟨fuel3, h3⟩ := h3
  obtain ⟨x3, l3, e3, hl3⟩ := open_bytes h3
  obtain rfl : x3 = .slice ba3 len3 cap3 := by
    have h : [Value.slice ba3 len3 cap3] = [x3] := e3
    injection h with h _
    exact h.symm
  clear hA0 hval0 hval hA
  simp only [List.append_nil] at hW'
  simp only [List.append_nil] at hAk hlt
  refine (fewest_law u1 u2 b _ l1 a2 _ l3 W hL hl1 (bounds_u8 w2) hl3).mono fun e W' ⟨he, hg⟩ => ?_
  subst he
  refine ⟨_, rfl, post_below (pv := []) hW' hg (fun _ _ _ => (trodAll_cons_mk (shut_bool Try.underlying4 _) trodAll_mk0)) (fun sp hsp => ?_) (fun _ _ => rfl) (List.append_nil _).symm
    (ok_one (by kernel_rfl) rfl (okWide_bool_mk Try.underlying4 _))⟩
  rw [Try.params14]
  refine args_stay laid_out hg (fun t ht => ?_) hAk hlt sp (fun x hx => hsp x (by first | exact hx | simpa using hx))
  simp only [List.mem_cons, List.not_mem_nil, or_false] at ht
  rcases ht with rfl | rfl | rfl | rfl
  · exact ⟨by kernel_rfl, by have h : decide (25 < Try.prog.types.size) = true := (by kernel_rfl); exact of_decide_eq_true h⟩
  · exact ⟨by kernel_rfl, by have h : decide (47 < Try.prog.types.size) = true := (by kernel_rfl); exact of_decide_eq_true h⟩
  · exact ⟨by kernel_rfl, by have h : decide (5 < Try.prog.types.size) = true := (by kernel_rfl); exact of_decide_eq_true h⟩
  · exact ⟨by kernel_rfl, by have h : decide (90 < Try.prog.types.size) = true := (by kernel_rfl); exact of_decide_eq_true h⟩

theorem cipherFewest_over : Rows.cipherFewestRow.holds Try.pinned (OpenSpec.ofChange Rows.cipherFewestSpec) :=
  OpenClaim.holds_of_wide 14 Try.f14 rfl rfl rfl rfl rfl rfl rfl ⟨rfl, rfl, rfl, rfl, rfl⟩ rfl rfl rfl rfl rfl (by kernel_rfl) Try.func14 (by kernel_rfl)
    (of_decide_eq_true (by kernel_rfl)) (by unfold Func.isWrapper; first | (rw [if_pos (by decide +kernel)]; kernel_rfl) | (rw [if_neg (by decide +kernel)]; exact ⟨rfl, rfl⟩))
    (fun os started H enc _ => cipherFewest_lifted os started H enc)

theorem CipherFewest_holds : Rows.CipherFewestSaid := cipherFewest_over

end Go.Proofs.Ytoenhkhfpbglhaa
