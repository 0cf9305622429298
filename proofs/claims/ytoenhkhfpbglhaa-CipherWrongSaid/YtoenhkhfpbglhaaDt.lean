/-
  CipherWrong holds: a dispatch of which one number is replaced, or two are exchanged, is not decoded. No condition.
-/
import Derived.Test.YtoenhkhfpbglhaaDs
import Derived.Test.YtoenhkhfpbglhaaEa
namespace Go.Proofs.Ytoenhkhfpbglhaa
open Go.RowKit Go.Shelf
attribute [local go_sem] Oper.semAt_some

set_option maxRecDepth 100000 in
set_option maxHeartbeats 3000000 in
theorem wrong_law (v1 v2 : Value) (b : Bk) (v : Value) (l : List Int) (x f1 f2 y : Int) (w : World) (hL : BookAny w v1 v2 b) (hl : RowsAny w v 1 ic l) (hx : 0 ≤ x ∧ x ≤ 255) (hf1 : 0 ≤ f1 ∧ f1 ≤ 255) (hf2 : 0 ≤ f2 ∧ f2 ≤ 255) (hy : 0 ≤ y ∧ y ≤ 255) :
    Calls Try.prog 10 #[.agg #[iv b.n, iv b.w, v1, v2], v, .int .u8 x, .int .u8 f1, .int .u8 f2, .int .u8 y] w fun e w' => e = .returned (.bool true) ∧ Below w.heap.size w w' := by
  obtain ⟨A1, cap1, rfl, g1, g2⟩ := hL.ks.form
  obtain ⟨A2, cap2, rfl, g3, g4⟩ := hL.ds.form
  obtain ⟨A3, cap3, rfl, g5, g6⟩ := hl.form
  obtain ⟨hx0, hx1⟩ := hx
  obtain ⟨hp0, hp1⟩ := hf1
  obtain ⟨hs0, hs1⟩ := hf2
  obtain ⟨hy0, hy1⟩ := hy
  have HA := Lib.hid hL
  have HVA := Lib.hid hl
  clear hL hl
  cases hr : readyT b l with
  | false =>
    have Hr := Lib.hid hr
    clear hr
    go_enter Try.func10, Try.ntmps10
    go_wp2_with fail
    refine (ready_law _ _ b _ l _ (HA.out.kept (up_alloc up0 _)) (HVA.out.kept (up_alloc up0 _))).mono ?_
    rintro e w1 ⟨rfl, hb⟩
    rw [Hr.out]
    have HB := Lib.hid (up_later (up_alloc (up0 (w := w)) (.cells #[iv b.n, iv b.w, .slice A1 b.ks.length cap1, .slice A2 b.ds.length cap2] 25)) hb)
    have B1 := Lib.hid ((Box.new (w := w) (t := 25) (cs := #[iv b.n, iv b.w, .slice A1 b.ks.length cap1, .slice A2 b.ds.length cap2]) rfl).kept hb)
    clear hb
    have BB := B1.out
    have cB := fun i => BB.cell i
    have fB := fun i => BB.free i
    have lB := BB.lt
    have mB := Nat.lt_succ_of_lt lB
    go_wp2_with fail
    clear cB fB lB mB BB
    refine (awake_any _).mono ?_
    rintro e w2 ⟨rfl, hb⟩
    go_wp2_with fail
    go_ret
    exact ⟨rfl, up_later HB.out hb⟩
  | true =>
  have Hr := Lib.hid hr
  obtain ⟨h8, hr'⟩ := readyT_iff.1 hr
  have HL := Lib.hid (HA.out.at h8.1 h8.2)
  have hok := BookOK.of hr'.1
  have HOK := Lib.hid hok
  have hd0 := hok.d1
  have hd8 := hok.d2
  have hn0 := hok.n1
  have hn1 := hok.n2
  have hl10 := hr'.2.1
  have HV := Lib.hid (HVA.out.rows (by omega))
  have m0 : 0 ≤ x % (b.ds.length : Int) := Int.emod_nonneg _ (by omega)
  have m1 : x % (b.ds.length : Int) < b.ds.length := Int.emod_lt_of_pos _ (by omega)
  obtain ⟨day, hday⟩ : ∃ day : Nat, x % (b.ds.length : Int) = day := ⟨(x % (b.ds.length : Int)).toNat, by omega⟩
  have hdl : day < b.ds.length := by omega
  obtain ⟨D, hD⟩ : ∃ D, dispatchI b day l = D := ⟨_, rfl⟩
  have hc := code_ready hr' hdl
  have hE0 := disp_ok hok (day := day) hl10
  have hDl := dispatch_len b day l
  have hback := decode_back hr' hdl
  rw [hD] at hc hE0 hDl hback
  have HC := Lib.hid hc
  have hD2 : D.length ≤ 12 := by omega
  have hD1 : 2 ≤ D.length := by omega
  have i0 : 0 ≤ f1 % (D.length : Int) := Int.emod_nonneg _ (by omega)
  have i1 : f1 % (D.length : Int) < D.length := Int.emod_lt_of_pos _ (by omega)
  have k0 : 0 ≤ f2 % (D.length : Int) := Int.emod_nonneg _ (by omega)
  have k1 : f2 % (D.length : Int) < D.length := Int.emod_lt_of_pos _ (by omega)
  obtain ⟨i, hi⟩ : ∃ i : Nat, f1 % (D.length : Int) = i := ⟨(f1 % (D.length : Int)).toNat, by omega⟩
  obtain ⟨k, hk⟩ : ∃ k : Nat, f2 % (D.length : Int) = k := ⟨(f2 % (D.length : Int)).toNat, by omega⟩
  have hil : i < D.length := by omega
  have hkl : k < D.length := by omega
  obtain ⟨_, _, hin, _⟩ := disp_parts hE0
  obtain ⟨di, hdi⟩ : ∃ di, D.getD i 0 = di := ⟨_, rfl⟩
  obtain ⟨dk, hdk⟩ : ∃ dk, D.getD k 0 = dk := ⟨_, rfl⟩
  have hdi1 := hin i hil
  rw [hdi] at hdi1
  have r0 : 0 ≤ y % (b.n - 1) := Int.emod_nonneg _ (by omega)
  have r1 : y % (b.n - 1) < b.n - 1 := Int.emod_lt_of_pos _ (by omega)
  obtain ⟨V, hV⟩ : ∃ V, (di + 1 + y % (b.n - 1)) % b.n = V := ⟨_, rfl⟩
  have hsh := shift_ne hdi1.1 hdi1.2 r0 r1
  rw [hV] at hsh
  have hE1 := wrong_one hok hE0 hil hsh.2.1 hsh.2.2 (by rw [hdi]; exact hsh.1)
  obtain ⟨E1, hE1e⟩ : ∃ E1, dispE b day (D.set i V) = E1 := ⟨_, rfl⟩
  have HX1 := Lib.hid (decode_bad hr'.1 hdl hE1)
  rw [hE1e] at hE1 HX1
  have q1 : (E1 == 0) = false := by rw [beq_eq_false_iff_ne]; exact hE1
  obtain ⟨Y, hY⟩ : ∃ Y, (D.set i dk).set k di = Y := ⟨_, rfl⟩
  have HY := Lib.hid hY
  have hYl : Y.length = D.length := by rw [← hY]; simp
  have HYl := Lib.hid hYl
  obtain ⟨P2, W2, E2, hX2⟩ : ∃ P2 W2 E2, decodeE b day Y = (P2, W2, E2) := ⟨_, _, _, rfl⟩
  have HX2 := Lib.hid hX2
  have hcase : (di = dk ∧ E2 = 0) ∨ (di ≠ dk ∧ E2 ≠ 0 ∧ P2 = [] ∧ W2 = []) := by
    by_cases e : di = dk
    · refine .inl ⟨e, ?_⟩
      have : Y = D := by rw [← hY, ← hdi, ← hdk]; exact swap_id hil hkl (by rw [hdi, hdk, e])
      rw [this, hback] at hX2
      simp at hX2
      exact hX2.2.2.symm
    · have h2 := wrong_two hok hE0 hil hkl (by rw [hdi, hdk]; exact e)
      rw [hdi, hdk, hY] at h2
      have h3 := decode_bad hr'.1 hdl h2
      rw [hX2] at h3
      simp at h3
      exact .inr ⟨e, by rw [h3.2.2]; exact h2, h3.1, h3.2.1⟩
  have Hcase := Lib.hid hcase
  have hdi' := getD_some hil
  have hdk' := getD_some hkl
  rw [hdi] at hdi'
  rw [hdk] at hdk'
  have HDi := Lib.hid hdi'
  have HDk := Lib.hid hdk'
  have HDay := Lib.hid hday
  have HI := Lib.hid hi
  have HK := Lib.hid hk
  have Hval := Lib.hid hV
  have n0 : ¬ (b.ds.length : Int) = 0 := by omega
  have z0 : ((b.ds.length : Int) == 0) = false := by rw [beq_eq_false_iff_ne]; omega
  have n1 : ¬ (D.length : Int) = 0 := by omega
  have z1 : ((D.length : Int) == 0) = false := by rw [beq_eq_false_iff_ne]; omega
  have e9 : (D.length : Int) = (l.length : Int) + 2 := by omega
  have HD1 := Lib.hid hD1
  have HD2 := Lib.hid hD2
  have Hil := Lib.hid hil
  have Hkl := Lib.hid hkl
  have Hdi1 := Lib.hid hdi1
  clear hr hr' hok hday hdl hD hDl hc hback hE0 hi hk hin hdi hdk hV hsh hE1 hE1e hY hYl hX2 hcase hdi' hdk' hD1 hD2 h8
  go_enter Try.func10, Try.ntmps10
  go_wp2_with fail
  refine (ready_law _ _ b _ l _ (HA.out.kept (up_alloc up0 _)) (HVA.out.kept (up_alloc up0 _))).mono ?_
  rintro e w1 ⟨rfl, hb⟩
  rw [Hr.out]
  have HB := Lib.hid (up_later (up_alloc (up0 (w := w)) (.cells #[iv b.n, iv b.w, .slice A1 b.ks.length cap1, .slice A2 b.ds.length cap2] 25)) hb)
  have B1 := Lib.hid ((Box.new (w := w) (t := 25) (cs := #[iv b.n, iv b.w, .slice A1 b.ks.length cap1, .slice A2 b.ds.length cap2]) rfl).kept hb)
  clear hb
  have BB := B1.out
  have cB := fun i => BB.cell i
  have fB := fun i => BB.free i
  have lB := BB.lt
  have mB := Nat.lt_succ_of_lt lB
  go_wp2_with fail
  clear cB fB lB mB BB
  refine (Book_any _ _ b _ (HL.out.kept HB.out)).mono ?_
  rintro e w2 ⟨a1, a2, rfl, hq, hb⟩
  have HQ := Lib.hid hq
  clear hq
  have HB := Lib.hid (up_later HB.out hb)
  have B1 := Lib.hid (B1.out.kept hb)
  clear hb
  unfold bookV
  have BB := B1.out
  have cB := fun i => BB.cell i
  have fB := fun i => BB.free i
  have lB := BB.lt
  have mB := Nat.lt_succ_of_lt lB
  go_wp2_with fail
  clear cB fB lB mB BB
  refine (list_any _ l _ (HV.out.kept HB.out)).mono ?_
  rintro e w3 ⟨lv, rfl, hq, hb⟩
  have HP := Lib.hid hq
  clear hq
  have HB := Lib.hid (up_later HB.out hb)
  have B1 := Lib.hid (B1.out.kept hb)
  have HQ := Lib.hid (HQ.out.kept hb)
  clear hb
  have BB := B1.out
  have cB := fun i => BB.cell i
  have fB := fun i => BB.free i
  have lB := BB.lt
  have mB := Nat.lt_succ_of_lt lB
  go_wp2_with fail
  clear cB fB lB mB BB
  refine (Code_any _ _ _ b (x % b.ds.length) l _ HQ.out HP.out).mono ?_
  rintro e w4 ⟨dv, rfl, hq, hb⟩
  rw [HDay.out, HC.out] at hq ⊢
  have hq' := ints_of_own hq rfl (show D.length ≤ 1000 by have := HD2.out; omega)
  obtain ⟨_, Ad, cd, rfl, _, _⟩ := hq'.form
  have HX := Lib.hid hq'
  clear hq hq' HQ HP
  have HB := Lib.hid (up_later HB.out hb)
  have B1 := Lib.hid (B1.out.kept hb)
  clear hb
  have BB := B1.out
  have cB := fun i => BB.cell i
  have fB := fun i => BB.free i
  have lB := BB.lt
  have mB := Nat.lt_succ_of_lt lB
  go_wp2_with fail
  clear cB fB lB mB BB
  clear e9
  have hDn : ¬ D = [] := by intro e; have := HD1.out; rw [e] at this; simp at this
  have hWf1 : IntKind.i64.wrap f1 = f1 := wrapK_in _ 1000 (by omega) (by omega)
  have hWf2 : IntKind.i64.wrap f2 = f2 := wrapK_in _ 1000 (by omega) (by omega)
  have hTi : f1.tmod (D.length : Int) = (i : Int) := by rw [Int.tmod_eq_emod_of_nonneg hp0]; exact HI.out
  have hTk : f2.tmod (D.length : Int) = (k : Int) := by rw [Int.tmod_eq_emod_of_nonneg hs0]; exact HK.out
  apply wp_region_by 12 [(Fact.eq _), (Fact.eq _), (Fact.eq _), (Fact.eq _), (Fact.eq _), (Fact.eq _), (Fact.eq _), (Fact.eq _), (Fact.eq _), (Fact.eq _), (Fact.eq _), (Fact.eq _)]
  case hm => kernel_rfl
  case hB => kernel_rfl
  case hA => (intro vs; simp only [List.take_succ_cons, List.take_zero, putAll, if_true, Act.put, List.setIfInBounds_toArray, List.set_cons_zero, List.set_cons_succ]; exact rfl)
  case hstep =>
    intro vs
    refine And.intro (fun w hw hd => ?_) ?_
    · refine ite_yes rfl ?_
      simp only [Gives]
      go_simp
      exact ⟨Below.refl _ _, rfl, fun h => by cases h⟩
    refine And.intro (fun w hw hd => ?_) ?_
    · have d0 := hd 0 (by decide) rfl
      change vs 0 = _ at d0
      refine ite_yes rfl ?_
      simp only [Gives]
      go_simp
      exact ⟨Below.refl _ _, rfl, fun h => by cases h⟩
    refine And.intro (fun w hw hd => ?_) ?_
    · refine ite_yes rfl ?_
      simp only [Gives]
      go_simp
      exact ⟨Below.refl _ _, rfl, fun h => by cases h⟩
    refine And.intro (fun w hw hd => ?_) ?_
    · have d2 := hd 2 (by decide) rfl
      change vs 2 = _ at d2
      refine ite_yes rfl ?_
      simp only [Gives]
      go_simp
      exact ⟨Below.refl _ _, rfl, fun h => by cases h⟩
    refine And.intro (fun w hw hd => ?_) ?_
    · have d1 := hd 1 (by decide) rfl
      change vs 1 = _ at d1
      have d3 := hd 3 (by decide) rfl
      change vs 3 = _ at d3
      refine ite_yes rfl ?_
      simp only [Gives]
      go_simp
      exact ⟨Below.refl _ _, rfl, fun h => by cases h⟩
    refine And.intro (fun w hw hd => ?_) ?_
    · refine ite_yes rfl ?_
      simp only [Gives]
      go_simp
      exact ⟨Below.refl _ _, rfl, fun h => by cases h⟩
    refine And.intro (fun w hw hd => ?_) ?_
    · have d5 := hd 5 (by decide) rfl
      change vs 5 = _ at d5
      refine ite_yes rfl ?_
      simp only [Gives]
      go_simp
      exact ⟨Below.refl _ _, rfl, fun h => by cases h⟩
    refine And.intro (fun w hw hd => ?_) ?_
    · refine ite_yes rfl ?_
      simp only [Gives]
      go_simp
      exact ⟨Below.refl _ _, rfl, fun h => by cases h⟩
    refine And.intro (fun w hw hd => ?_) ?_
    · have d7 := hd 7 (by decide) rfl
      change vs 7 = _ at d7
      refine ite_yes rfl ?_
      simp only [Gives]
      go_simp
      exact ⟨Below.refl _ _, rfl, fun h => by cases h⟩
    refine And.intro (fun w hw hd => ?_) ?_
    · have d6 := hd 6 (by decide) rfl
      change vs 6 = _ at d6
      have d8 := hd 8 (by decide) rfl
      change vs 8 = _ at d8
      refine ite_yes rfl ?_
      simp only [Gives]
      go_simp
      exact ⟨Below.refl _ _, rfl, fun h => by cases h⟩
    refine And.intro (fun w hw hd => ?_) ?_
    · have d4 := hd 4 (by decide) rfl
      change vs 4 = _ at d4
      refine ite_yes rfl ?_
      simp only [Gives]
      go_simp
      exact ⟨Below.refl _ _, rfl, fun h => by cases h⟩
    refine And.intro (fun w hw hd => ?_) ?_
    · have d9 := hd 9 (by decide) rfl
      change vs 9 = _ at d9
      refine ite_yes rfl ?_
      simp only [Gives]
      go_simp
      exact ⟨Below.refl _ _, rfl, fun h => by cases h⟩
    exact trivial
  intro vs wt hw hd hne hlo
  have d0 := hd 0 (by decide)
  change vs 0 = _ at d0
  have d1 := hd 1 (by decide)
  change vs 1 = _ at d1
  have d2 := hd 2 (by decide)
  change vs 2 = _ at d2
  have d3 := hd 3 (by decide)
  change vs 3 = _ at d3
  have d4 := hd 4 (by decide)
  change vs 4 = _ at d4
  have d5 := hd 5 (by decide)
  change vs 5 = _ at d5
  have d6 := hd 6 (by decide)
  change vs 6 = _ at d6
  have d7 := hd 7 (by decide)
  change vs 7 = _ at d7
  have d8 := hd 8 (by decide)
  change vs 8 = _ at d8
  have d9 := hd 9 (by decide)
  change vs 9 = _ at d9
  have d10 := hd 10 (by decide)
  change vs 10 = _ at d10
  have d11 := hd 11 (by decide)
  change vs 11 = _ at d11
  simp only [d0, d1, d2, d3, d4, d5, d6, d7, d8, d9, d10, d11, List.drop_succ_cons, List.drop_nil]
  clear hd hne hlo d0 d1 d2 d3 d4 d5 d6 d7 d8 d9 d10 d11
  have HB := Lib.hid (up_later HB.out hw)
  have B1 := Lib.hid (B1.out.kept hw)
  have HX := Lib.hid (HX.out.kept hw)
  clear hw
  clear i0 i1 k0 k1
  have hi0 : (0 : Int) ≤ (i : Int) := by omega
  have hk0 : (0 : Int) ≤ (k : Int) := by omega
  have hil : (i : Int) < (D.length : Int) := by have := Hil.out; omega
  have hkl : (k : Int) < (D.length : Int) := by have := Hkl.out; omega
  go_wp2_with fail
  refine (list_own _ D _ HX.out).mono ?_
  rintro e w8 ⟨xv, rfl, ho, hb⟩
  obtain ⟨gx, px, rfl, hgx0, hgx1⟩ := own_some ho (by have := HD1.out; omega)
  have HOX := Lib.hid ho
  have H7 := Lib.hid hb
  clear ho hb
  go_wp2_with fail
  refine (list_own _ D _ (HX.out.kept H7.out)).mono ?_
  rintro e w9 ⟨yv, rfl, ho, hb⟩
  obtain ⟨gy, py, rfl, hgy0, hgy1⟩ := own_some ho (by have := HD1.out; omega)
  have HOX := Lib.hid (own_below HOX.out hb)
  have HOY := Lib.hid ho
  have H7 := Lib.hid (up_later H7.out hb)
  have B9 := Lib.hid (B1.out.kept H7.out)
  clear ho hb
  have N := B9.out
  have cN := fun i => N.cell i
  go_wp2_with fail
  clear cN N
  have hW3 : IntKind.i64.wrap (di + 1) = di + 1 := wrapK_in _ 1000 (by omega) (by have := Hdi1.out; omega)
  have hW4 : IntKind.i64.wrap y = y := wrapK_in _ 1000 (by omega) (by omega)
  have hW5 : IntKind.i64.wrap (b.n - 1) = b.n - 1 := wrapK_in _ 1000 (by omega) (by omega)
  obtain ⟨r, hr⟩ : ∃ r, y % (b.n - 1) = r := ⟨_, rfl⟩
  have hT6 : y.tmod (b.n - 1) = r := by rw [Int.tmod_eq_emod_of_nonneg hy0]; exact hr
  rw [hr] at r0 r1 Hval
  have hW7 : IntKind.i64.wrap (di + 1 + r) = di + 1 + r := wrapK_in _ 1000 (by omega) (by have := Hdi1.out; omega)
  have hT8 : (di + 1 + r).tmod b.n = V := by rw [Int.tmod_eq_emod_of_nonneg (by have := Hdi1.out; omega)]; exact Hval.out
  have hz1 : ¬ b.n - 1 = 0 := by omega
  have hz2 : ¬ b.n = 1 := by omega
  have hz3 : ¬ b.n = 0 := by omega
  have hz4 : (b.n == 0) = false := by rw [beq_eq_false_iff_ne]; omega
  have hz5 : (b.n - 1 == 0) = false := by rw [beq_eq_false_iff_ne]; omega
  clear hr
  have N := B9.out
  apply wp_region_by 18 [(Fact.eq _), (Fact.eq _), (Fact.eq _), (Fact.eq _), (Fact.eq _), (Fact.eq _), (Fact.eq _), (Fact.eq _), (Fact.eq _), (Fact.eq _), (Fact.eq _), (Fact.eq _), (Fact.eq _), (Fact.eq _), (Fact.eq _), (Fact.eq _), (Fact.eq _), (Fact.eq _)]
  case hm => kernel_rfl
  case hB => kernel_rfl
  case hA => (intro vs; simp only [List.take_succ_cons, List.take_zero, putAll, if_true, Act.put, List.setIfInBounds_toArray, List.set_cons_zero, List.set_cons_succ]; exact rfl)
  case hstep =>
    intro vs
    refine And.intro (fun w hw hd => ?_) ?_
    · refine ite_yes rfl ?_
      simp only [Gives]
      go_simp
      exact ⟨Below.refl _ _, rfl, fun h => by cases h⟩
    refine And.intro (fun w hw hd => ?_) ?_
    · refine ite_yes rfl ?_
      simp only [Gives]
      go_simp
      exact ⟨Below.refl _ _, rfl, fun h => by cases h⟩
    refine And.intro (fun w hw hd => ?_) ?_
    · refine ite_yes rfl ?_
      simp only [Gives]
      go_simp
      exact ⟨Below.refl _ _, rfl, fun h => by cases h⟩
    refine And.intro (fun w hw hd => ?_) ?_
    · refine ite_yes rfl ?_
      simp only [Gives]
      go_simp
      exact ⟨Below.refl _ _, rfl, fun h => by cases h⟩
    refine And.intro (fun w hw hd => ?_) ?_
    · have d2 := hd 2 (by decide) rfl
      change vs 2 = _ at d2
      have d3 := hd 3 (by decide) rfl
      change vs 3 = _ at d3
      refine ite_yes rfl ?_
      simp only [Gives]
      go_simp
      exact ⟨Below.refl _ _, rfl, fun h => by cases h⟩
    refine And.intro (fun w hw hd => ?_) ?_
    · have d4 := hd 4 (by decide) rfl
      change vs 4 = _ at d4
      refine ite_yes rfl ?_
      have c_N := fun i => (N.kept hw).cell i
      have q0 : w.cell? ⟨gx, i, none⟩ = some (.int .i64 di) := own_cell (own_below HOX.out hw) (map_some HDi.out)
      simp only [Gives]
      go_simp
      exact ⟨Below.refl _ _, rfl, fun h => by cases h⟩
    refine And.intro (fun w hw hd => ?_) ?_
    · have d5 := hd 5 (by decide) rfl
      change vs 5 = _ at d5
      refine ite_yes rfl ?_
      simp only [Gives]
      go_simp
      exact ⟨Below.refl _ _, rfl, fun h => by cases h⟩
    refine And.intro (fun w hw hd => ?_) ?_
    · refine ite_yes rfl ?_
      simp only [Gives]
      go_simp
      exact ⟨Below.refl _ _, rfl, fun h => by cases h⟩
    refine And.intro (fun w hw hd => ?_) ?_
    · have d7 := hd 7 (by decide) rfl
      change vs 7 = _ at d7
      refine ite_yes rfl ?_
      simp only [Gives]
      go_simp
      exact ⟨Below.refl _ _, rfl, fun h => by cases h⟩
    refine And.intro (fun w hw hd => ?_) ?_
    · refine ite_yes rfl ?_
      simp only [Gives]
      go_simp
      exact ⟨Below.refl _ _, rfl, fun h => by cases h⟩
    refine And.intro (fun w hw hd => ?_) ?_
    · have d9 := hd 9 (by decide) rfl
      change vs 9 = _ at d9
      refine ite_yes rfl ?_
      have c_N := fun i => (N.kept hw).cell i
      have q0 : w.cell? ⟨gx, i, none⟩ = some (.int .i64 di) := own_cell (own_below HOX.out hw) (map_some HDi.out)
      simp only [Gives]
      go_simp
      exact ⟨Below.refl _ _, rfl, fun h => by cases h⟩
    refine And.intro (fun w hw hd => ?_) ?_
    · have d10 := hd 10 (by decide) rfl
      change vs 10 = _ at d10
      refine ite_yes rfl ?_
      simp only [Gives]
      go_simp
      exact ⟨Below.refl _ _, rfl, fun h => by cases h⟩
    refine And.intro (fun w hw hd => ?_) ?_
    · have d8 := hd 8 (by decide) rfl
      change vs 8 = _ at d8
      have d11 := hd 11 (by decide) rfl
      change vs 11 = _ at d11
      refine ite_yes rfl ?_
      simp only [Gives]
      go_simp
      exact ⟨Below.refl _ _, rfl, fun h => by cases h⟩
    refine And.intro (fun w hw hd => ?_) ?_
    · have d6 := hd 6 (by decide) rfl
      change vs 6 = _ at d6
      have d12 := hd 12 (by decide) rfl
      change vs 12 = _ at d12
      refine ite_yes rfl ?_
      simp only [Gives]
      go_simp
      exact ⟨Below.refl _ _, rfl, fun h => by cases h⟩
    refine And.intro (fun w hw hd => ?_) ?_
    · refine ite_yes rfl ?_
      simp only [Gives]
      go_simp
      exact ⟨Below.refl _ _, rfl, fun h => by cases h⟩
    refine And.intro (fun w hw hd => ?_) ?_
    · have d14 := hd 14 (by decide) rfl
      change vs 14 = _ at d14
      refine ite_yes rfl ?_
      have c_N := fun i => (N.kept hw).cell i
      have q0 : w.cell? ⟨gx, i, none⟩ = some (.int .i64 di) := own_cell (own_below HOX.out hw) (map_some HDi.out)
      simp only [Gives]
      go_simp
      exact ⟨Below.refl _ _, rfl, fun h => by cases h⟩
    refine And.intro (fun w hw hd => ?_) ?_
    · have d13 := hd 13 (by decide) rfl
      change vs 13 = _ at d13
      have d15 := hd 15 (by decide) rfl
      change vs 15 = _ at d15
      refine ite_yes rfl ?_
      simp only [Gives]
      go_simp
      exact ⟨Below.refl _ _, rfl, fun h => by cases h⟩
    refine And.intro (fun w hw hd => ?_) ?_
    · have d0 := hd 0 (by decide) rfl
      change vs 0 = _ at d0
      have d1 := hd 1 (by decide) rfl
      change vs 1 = _ at d1
      refine ite_yes rfl ?_
      simp only [Gives]
      go_simp
      exact ⟨Below.refl _ _, rfl, fun h => by cases h⟩
    exact trivial
  intro vs wt hw hd hne hlo
  have d0 := hd 0 (by decide)
  change vs 0 = _ at d0
  have d1 := hd 1 (by decide)
  change vs 1 = _ at d1
  have d2 := hd 2 (by decide)
  change vs 2 = _ at d2
  have d3 := hd 3 (by decide)
  change vs 3 = _ at d3
  have d4 := hd 4 (by decide)
  change vs 4 = _ at d4
  have d5 := hd 5 (by decide)
  change vs 5 = _ at d5
  have d6 := hd 6 (by decide)
  change vs 6 = _ at d6
  have d7 := hd 7 (by decide)
  change vs 7 = _ at d7
  have d8 := hd 8 (by decide)
  change vs 8 = _ at d8
  have d9 := hd 9 (by decide)
  change vs 9 = _ at d9
  have d10 := hd 10 (by decide)
  change vs 10 = _ at d10
  have d11 := hd 11 (by decide)
  change vs 11 = _ at d11
  have d12 := hd 12 (by decide)
  change vs 12 = _ at d12
  have d13 := hd 13 (by decide)
  change vs 13 = _ at d13
  have d14 := hd 14 (by decide)
  change vs 14 = _ at d14
  have d15 := hd 15 (by decide)
  change vs 15 = _ at d15
  have d16 := hd 16 (by decide)
  change vs 16 = _ at d16
  have d17 := hd 17 (by decide)
  change vs 17 = _ at d17
  simp only [d0, d1, d2, d3, d4, d5, d6, d7, d8, d9, d10, d11, d12, d13, d14, d15, d16, d17, List.drop_succ_cons, List.drop_zero]
  have N := N.kept hw
  have c_N := fun i => N.cell i
  have f_N := fun i => N.free i
  clear hd hne hlo d0 d1 d2 d3 d4 d5 d6 d7 d8 d9 d10 d11 d12 d13 d14 d15 d16 d17
  clear hW3 hW4 hW5 hT6 hW7 hT8 hz1 hz2 hz3 hz4 hz5 Hval c_N f_N N
  have HOX := Lib.hid (own_below HOX.out hw)
  have HOY := Lib.hid (own_below HOY.out hw)
  have H7 := Lib.hid (up_later H7.out hw)
  have q0 : wt.cell? ⟨gx, i, none⟩ = some (.int .i64 di) := own_cell HOX.out (map_some HDi.out)
  have q1 : wt.frozen? ⟨gx, i, none⟩ = false := own_free HOX.out
  obtain ⟨bD, oD, eD, _, _⟩ := HX.out.at rfl HDi.out
  subst eD
  have HX10 := Lib.hid (HX.out.kept (up_put H7.out (p := ⟨gx, i, none⟩) hgx0 (iv V)))
  have HY10 := Lib.hid (own_far (g := gx) (i := i) (u := iv V) HOY.out hgx1)
  have q2 : (wt.setCell ⟨gx, i, none⟩ (iv V)).cell? ⟨bD, oD + k, none⟩ = some (.int .i64 dk) := by simpa using HX10.out.cellAt HDk.out (j := 0) rfl
  have q3 : (wt.setCell ⟨gx, i, none⟩ (iv V)).cell? ⟨gy, i, none⟩ = some (.int .i64 di) := own_cell HY10.out (map_some HDi.out)
  have q4 : (wt.setCell ⟨gx, i, none⟩ (iv V)).frozen? ⟨gy, i, none⟩ = false := own_free HY10.out
  have HY11 := Lib.hid (own_int (i := i) (z := dk) HY10.out)
  have H11 := Lib.hid (up_put (up_put H7.out (p := ⟨gx, i, none⟩) hgx0 (iv V)) (p := ⟨gy, i, none⟩) (by show _ ≤ gy; have := H7.out.size; omega) (iv dk))
  have HX11 := Lib.hid (HX.out.kept H11.out)
  have q5 : ((wt.setCell ⟨gx, i, none⟩ (iv V)).setCell ⟨gy, i, none⟩ (iv dk)).cell? ⟨bD, oD + i, none⟩ = some (.int .i64 di) := by simpa using HX11.out.cellAt HDi.out (j := 0) rfl
  have hgyx : gy ≠ gx := by omega
  obtain ⟨dz, hdz⟩ : ∃ dz, (D.set i dk)[k]? = some dz := ⟨_, List.getElem?_eq_getElem (by simpa using Hkl.out)⟩
  have q6 : ((wt.setCell ⟨gx, i, none⟩ (iv V)).setCell ⟨gy, i, none⟩ (iv dk)).cell? ⟨gy, k, none⟩ = some (.int .i64 dz) := own_cell HY11.out (map_some hdz)
  have q7 : ((wt.setCell ⟨gx, i, none⟩ (iv V)).setCell ⟨gy, i, none⟩ (iv dk)).frozen? ⟨gy, k, none⟩ = false := own_free HY11.out
  have H12 := Lib.hid (up_put H11.out (p := ⟨gy, k, none⟩) (by show _ ≤ gy; have := H7.out.size; omega) (iv di))
  have HY12 := Lib.hid (own_int (i := k) (z := di) HY11.out)
  rw [HY.out] at HY12
  have HX12 := Lib.hid (own_int (i := i) (z := V) HOX.out)
  have HX12 := Lib.hid (own_away (own_away HX12.out hgyx (i := i) (u := iv dk)) hgyx (i := k) (u := iv di))
  have B12 := Lib.hid (B1.out.kept H12.out)
  have HB := Lib.hid (up_later HB.out H12.out)
  have B1 := Lib.hid (B1.out.kept H12.out)
  have HX := Lib.hid (HX.out.kept H12.out)
  have HXV := Lib.hid (ints_of_own HX12.out (by simp) (by have := HD2.out; simp; omega))
  have HYV := Lib.hid (ints_of_own HY12.out HYl.out.symm (by have := HD2.out; rw [HYl.out]; omega))
  clear hdz HY10 HY11 HX10 HX11 H11 B9 B12 HX12 HY12 H12 H7
  have BB := B1.out
  have cB := fun i => BB.cell i
  have fB := fun i => BB.free i
  have lB := BB.lt
  have mB := Nat.lt_succ_of_lt lB
  go_wp2_with fail
  clear cB fB lB mB BB
  clear q0 q1 q2 q3 q4 q5 q6 q7 hw
  refine (Book_any _ _ b _ (HL.out.kept HB.out)).mono ?_
  rintro e w2 ⟨a1, a2, rfl, hq, hb⟩
  have HQ := Lib.hid hq
  clear hq
  have HB := Lib.hid (up_later HB.out hb)
  have B1 := Lib.hid (B1.out.kept hb)
  have HX := Lib.hid (HX.out.kept hb)
  have HXV := Lib.hid (HXV.out.kept hb)
  have HYV := Lib.hid (HYV.out.kept hb)
  clear hb
  unfold bookV
  have BB := B1.out
  have cB := fun i => BB.cell i
  have fB := fun i => BB.free i
  have lB := BB.lt
  have mB := Nat.lt_succ_of_lt lB
  go_wp2_with fail
  clear cB fB lB mB BB
  refine (Decode_any _ _ _ b day (D.set i V) _ HQ.out HXV.out).mono ?_
  rintro e w4 ⟨pv, wv, rfl, hp, hwv, hb⟩
  rw [HX1.out] at hp hwv ⊢
  obtain ⟨_, Ap, cp, rfl, _, _⟩ := hp.form
  obtain ⟨_, Aw, cw, rfl, _, _⟩ := hwv.form
  clear hp hwv HQ HXV
  have HB := Lib.hid (up_later HB.out hb)
  have B1 := Lib.hid (B1.out.kept hb)
  have HX := Lib.hid (HX.out.kept hb)
  have HYV := Lib.hid (HYV.out.kept hb)
  clear hb
  have BB := B1.out
  have cB := fun i => BB.cell i
  have fB := fun i => BB.free i
  have lB := BB.lt
  have mB := Nat.lt_succ_of_lt lB
  go_wp2_with fail
  clear cB fB lB mB BB
  refine (Book_any _ _ b _ (HL.out.kept HB.out)).mono ?_
  rintro e w2 ⟨a1, a2, rfl, hq, hb⟩
  have HQ := Lib.hid hq
  clear hq
  have HB := Lib.hid (up_later HB.out hb)
  have B1 := Lib.hid (B1.out.kept hb)
  have HX := Lib.hid (HX.out.kept hb)
  have HYV := Lib.hid (HYV.out.kept hb)
  clear hb
  unfold bookV
  have BB := B1.out
  have cB := fun i => BB.cell i
  have fB := fun i => BB.free i
  have lB := BB.lt
  have mB := Nat.lt_succ_of_lt lB
  go_wp2_with fail
  clear cB fB lB mB BB
  refine (Decode_any _ _ _ b day Y _ HQ.out HYV.out).mono ?_
  rintro e w5 ⟨qv, vv, rfl, hp, hwv, hb⟩
  rw [HX2.out] at hp hwv ⊢
  have HP2 := Lib.hid hp
  have HW2 := Lib.hid hwv
  clear hp hwv HQ HYV
  have HB := Lib.hid (up_later HB.out hb)
  have HX := Lib.hid (HX.out.kept hb)
  clear hb B1
  rcases Hcase.out with ⟨hdd, hE2⟩ | ⟨hdd, hE2, hP2, hW2⟩
  · subst hE2
    have hdd' : (di == dk) = true := by rw [beq_iff_eq]; exact hdd
    obtain ⟨_, Ap2, cp2, rfl, _, _⟩ := HP2.out.form
    obtain ⟨_, Aw2, cw2, rfl, _, _⟩ := HW2.out.form
    clear Hcase
    go_wp2_with fail
    apply wp_region_by 9 [(Fact.eq _), (Fact.eq _), (Fact.eq _), (Fact.eq _), (Fact.eq _), (Fact.eq _), (Fact.eq _), (Fact.eq _), (Fact.eq _)]
    case hm => kernel_rfl
    case hB => kernel_rfl
    case hA => (intro vs; simp only [List.take_succ_cons, List.take_zero, putAll, if_true, Act.put, List.setIfInBounds_toArray, List.set_cons_zero, List.set_cons_succ]; exact rfl)
    case hstep =>
      intro vs
      refine And.intro (fun w hw hd => ?_) ?_
      · refine ite_yes rfl ?_
        simp only [Gives]
        go_simp
        exact ⟨Below.refl _ _, rfl, fun h => by cases h⟩
      refine And.intro (fun w hw hd => ?_) ?_
      · refine ite_yes rfl ?_
        simp only [Gives]
        go_simp
        exact ⟨Below.refl _ _, rfl, fun h => by cases h⟩
      refine And.intro (fun w hw hd => ?_) ?_
      · have d0 := hd 0 (by decide) rfl
        change vs 0 = _ at d0
        have d1 := hd 1 (by decide) rfl
        change vs 1 = _ at d1
        refine ite_yes rfl ?_
        simp only [Gives]
        go_simp
        exact ⟨Below.refl _ _, rfl, fun h => by cases h⟩
      refine And.intro (fun w hw hd => ?_) ?_
      · have d2 := hd 2 (by decide) rfl
        change vs 2 = _ at d2
        refine ite_yes rfl ?_
        have q0 : w.cell? ⟨bD, oD + i, none⟩ = some (.int .i64 di) := by simpa using (HX.out.kept hw).cellAt HDi.out (j := 0) rfl
        have q1 : w.cell? ⟨bD, oD + k, none⟩ = some (.int .i64 dk) := by simpa using (HX.out.kept hw).cellAt HDk.out (j := 0) rfl
        simp only [Gives]
        go_simp
        exact ⟨Below.refl _ _, rfl, fun h => by cases h⟩
      refine And.intro (fun w hw hd => ?_) ?_
      · refine ite_yes rfl ?_
        simp only [Gives]
        go_simp
        exact ⟨Below.refl _ _, rfl, fun h => by cases h⟩
      refine And.intro (fun w hw hd => ?_) ?_
      · refine ite_yes rfl ?_
        simp only [Gives]
        go_simp
        exact ⟨Below.refl _ _, rfl, fun h => by cases h⟩
      refine And.intro (fun w hw hd => ?_) ?_
      · have d4 := hd 4 (by decide) rfl
        change vs 4 = _ at d4
        have d5 := hd 5 (by decide) rfl
        change vs 5 = _ at d5
        refine ite_yes rfl ?_
        simp only [Gives]
        go_simp
        exact ⟨Below.refl _ _, rfl, fun h => by cases h⟩
      refine And.intro (fun w hw hd => ?_) ?_
      · have d6 := hd 6 (by decide) rfl
        change vs 6 = _ at d6
        refine ite_yes rfl ?_
        have q0 : w.cell? ⟨bD, oD + i, none⟩ = some (.int .i64 di) := by simpa using (HX.out.kept hw).cellAt HDi.out (j := 0) rfl
        have q1 : w.cell? ⟨bD, oD + k, none⟩ = some (.int .i64 dk) := by simpa using (HX.out.kept hw).cellAt HDk.out (j := 0) rfl
        simp only [Gives]
        go_simp
        exact ⟨Below.refl _ _, rfl, fun h => by cases h⟩
      refine And.intro (fun w hw hd => ?_) ?_
      · have d3 := hd 3 (by decide) rfl
        change vs 3 = _ at d3
        have d7 := hd 7 (by decide) rfl
        change vs 7 = _ at d7
        refine ite_yes rfl ?_
        simp only [Gives]
        go_simp
        exact ⟨Below.refl _ _, rfl, fun h => by cases h⟩
      exact trivial
    intro vs wt hw hd hne hlo
    have d0 := hd 0 (by decide)
    change vs 0 = _ at d0
    have d1 := hd 1 (by decide)
    change vs 1 = _ at d1
    have d2 := hd 2 (by decide)
    change vs 2 = _ at d2
    have d3 := hd 3 (by decide)
    change vs 3 = _ at d3
    have d4 := hd 4 (by decide)
    change vs 4 = _ at d4
    have d5 := hd 5 (by decide)
    change vs 5 = _ at d5
    have d6 := hd 6 (by decide)
    change vs 6 = _ at d6
    have d7 := hd 7 (by decide)
    change vs 7 = _ at d7
    have d8 := hd 8 (by decide)
    change vs 8 = _ at d8
    simp only [d0, d1, d2, d3, d4, d5, d6, d7, d8, List.drop_succ_cons, List.drop_nil]
    clear hd hne hlo d0 d1 d2 d3 d4 d5 d6 d7 d8
    have HB := Lib.hid (up_later HB.out hw)
    clear hw
    go_wp2_with fail
    refine (awake_any _).mono ?_
    rintro e w8 ⟨rfl, hb⟩
    go_wp2_with fail
    go_ret
    exact ⟨rfl, up_later HB.out hb⟩
  · subst hP2 hW2
    have hdd' : (di == dk) = false := by rw [beq_eq_false_iff_ne]; exact hdd
    have q9 : (E2 == 0) = false := by rw [beq_eq_false_iff_ne]; exact hE2
    have q10 : (E2 != 0) = true := bne_iff_ne.2 hE2
    obtain ⟨_, Ap2, cp2, rfl, _, _⟩ := HP2.out.form
    obtain ⟨_, Aw2, cw2, rfl, _, _⟩ := HW2.out.form
    clear Hcase
    go_wp2_with fail
    apply wp_region_by 9 [(Fact.eq _), (Fact.eq _), (Fact.eq _), (Fact.eq _), (Fact.eq _), (Fact.eq _), (Fact.eq _), (Fact.eq _), (Fact.eq _)]
    case hm => kernel_rfl
    case hB => kernel_rfl
    case hA => (intro vs; simp only [List.take_succ_cons, List.take_zero, putAll, if_true, Act.put, List.setIfInBounds_toArray, List.set_cons_zero, List.set_cons_succ]; exact rfl)
    case hstep =>
      intro vs
      refine And.intro (fun w hw hd => ?_) ?_
      · refine ite_yes rfl ?_
        simp only [Gives]
        go_simp
        exact ⟨Below.refl _ _, rfl, fun h => by cases h⟩
      refine And.intro (fun w hw hd => ?_) ?_
      · refine ite_yes rfl ?_
        simp only [Gives]
        go_simp
        exact ⟨Below.refl _ _, rfl, fun h => by cases h⟩
      refine And.intro (fun w hw hd => ?_) ?_
      · have d0 := hd 0 (by decide) rfl
        change vs 0 = _ at d0
        have d1 := hd 1 (by decide) rfl
        change vs 1 = _ at d1
        refine ite_yes rfl ?_
        simp only [Gives]
        go_simp
        exact ⟨Below.refl _ _, rfl, fun h => by cases h⟩
      refine And.intro (fun w hw hd => ?_) ?_
      · have d2 := hd 2 (by decide) rfl
        change vs 2 = _ at d2
        refine ite_yes rfl ?_
        have q0 : w.cell? ⟨bD, oD + i, none⟩ = some (.int .i64 di) := by simpa using (HX.out.kept hw).cellAt HDi.out (j := 0) rfl
        have q1 : w.cell? ⟨bD, oD + k, none⟩ = some (.int .i64 dk) := by simpa using (HX.out.kept hw).cellAt HDk.out (j := 0) rfl
        simp only [Gives]
        go_simp
        exact ⟨Below.refl _ _, rfl, fun h => by cases h⟩
      refine And.intro (fun w hw hd => ?_) ?_
      · refine ite_yes rfl ?_
        simp only [Gives]
        go_simp
        exact ⟨Below.refl _ _, rfl, fun h => by cases h⟩
      refine And.intro (fun w hw hd => ?_) ?_
      · refine ite_yes rfl ?_
        simp only [Gives]
        go_simp
        exact ⟨Below.refl _ _, rfl, fun h => by cases h⟩
      refine And.intro (fun w hw hd => ?_) ?_
      · have d4 := hd 4 (by decide) rfl
        change vs 4 = _ at d4
        have d5 := hd 5 (by decide) rfl
        change vs 5 = _ at d5
        refine ite_yes rfl ?_
        simp only [Gives]
        go_simp
        exact ⟨Below.refl _ _, rfl, fun h => by cases h⟩
      refine And.intro (fun w hw hd => ?_) ?_
      · have d6 := hd 6 (by decide) rfl
        change vs 6 = _ at d6
        refine ite_yes rfl ?_
        have q0 : w.cell? ⟨bD, oD + i, none⟩ = some (.int .i64 di) := by simpa using (HX.out.kept hw).cellAt HDi.out (j := 0) rfl
        have q1 : w.cell? ⟨bD, oD + k, none⟩ = some (.int .i64 dk) := by simpa using (HX.out.kept hw).cellAt HDk.out (j := 0) rfl
        simp only [Gives]
        go_simp
        exact ⟨Below.refl _ _, rfl, fun h => by cases h⟩
      refine And.intro (fun w hw hd => ?_) ?_
      · have d3 := hd 3 (by decide) rfl
        change vs 3 = _ at d3
        have d7 := hd 7 (by decide) rfl
        change vs 7 = _ at d7
        refine ite_yes rfl ?_
        simp only [Gives]
        go_simp
        exact ⟨Below.refl _ _, rfl, fun h => by cases h⟩
      exact trivial
    intro vs wt hw hd hne hlo
    have d0 := hd 0 (by decide)
    change vs 0 = _ at d0
    have d1 := hd 1 (by decide)
    change vs 1 = _ at d1
    have d2 := hd 2 (by decide)
    change vs 2 = _ at d2
    have d3 := hd 3 (by decide)
    change vs 3 = _ at d3
    have d4 := hd 4 (by decide)
    change vs 4 = _ at d4
    have d5 := hd 5 (by decide)
    change vs 5 = _ at d5
    have d6 := hd 6 (by decide)
    change vs 6 = _ at d6
    have d7 := hd 7 (by decide)
    change vs 7 = _ at d7
    have d8 := hd 8 (by decide)
    change vs 8 = _ at d8
    simp only [d0, d1, d2, d3, d4, d5, d6, d7, d8, List.drop_succ_cons, List.drop_nil]
    clear hd hne hlo d0 d1 d2 d3 d4 d5 d6 d7 d8
    have HB := Lib.hid (up_later HB.out hw)
    clear hw
    go_wp2_with fail
    refine (awake_any _).mono ?_
    rintro e w8 ⟨rfl, hb⟩
    go_wp2_with fail
    go_ret
    exact ⟨rfl, up_later HB.out hb⟩
end Go.Proofs.Ytoenhkhfpbglhaa

namespace Go.Proofs.Ytoenhkhfpbglhaa
open Go.ChangeShapes Go.WideShapes Go.ChangeAt Go.RowKit

set_option maxRecDepth 100000 in
theorem cipherWrong_lifted (os : Os) (started : os.Started) (H : Type) (enc : TypeId × Value → H) :
    ReturnsInHanded {} Try.checked os 10 .any (Rows.cipherWrongSpec.pre6 enc Try.prog Try.f10 Rows.cipherWrongRow.domain false) (Rows.cipherWrongSpec.post enc Try.prog Try.f10 false true false false) := by
  refine returnsInHanded_of_change (C := Try.checked) own_knob started (by kernel_rfl) Try.func10
    (ChangeSpec.witness6 (enc := enc) (C := Try.checked) false ⟨#[], #[.agg #[.int .i64 0, .int .i64 0, .slice Option.none 0 0, .slice Option.none 0 0], .slice Option.none 0 0, .int .u8 0, .int .u8 0, .int .u8 0, .int .u8 0], []⟩ 8 (by kernel_rfl) (by kernel_rfl) (by kernel_rfl) (by kernel_rfl)) ?_
  intro W base args ds gs before hval0 hW hcnd _
  have hval : ∀ (j : Nat) t v, Try.f10.params[j]? = some t → args[j]? = some v → Value.okWide Try.prog W .any base t v := hval0
  have hW' := hW
  obtain ⟨p, q, hA0, hV, rfl, hfz, hnd⟩ := hW
  have hA : DataW.TrodAll enc Try.prog W 0 (fun _ => true) true Try.f10.params.toList args.toList ds p := hA0
  rw [Try.params10] at hA hval
  have hlt : ∀ x ∈ p, x.block < W.heap.size := fun x hx => hW'.lt x (List.mem_append_left _ hx)
  have hAk := hA
  obtain ⟨v0, vs0, d0, ds0, p0, q0, hargs, rfl, rfl, h0, r0⟩ := trodAll_cons hA
  obtain ⟨v1, vs1, d1, ds1, p1, q1, rfl, rfl, rfl, h1, r1⟩ := trodAll_cons r0
  obtain ⟨v2, vs2, d2, ds2, p2, q2, rfl, rfl, rfl, h2, r2⟩ := trodAll_cons r1
  obtain ⟨v3, vs3, d3, ds3, p3, q3, rfl, rfl, rfl, h3, r3⟩ := trodAll_cons r2
  obtain ⟨v4, vs4, d4, ds4, p4, q4, rfl, rfl, rfl, h4, r4⟩ := trodAll_cons r3
  obtain ⟨v5, vs5, d5, ds5, p5, q5, rfl, rfl, rfl, h5, r5⟩ := trodAll_cons r4
  obtain ⟨rfl, rfl, rfl⟩ := trodAll_nil r5
  obtain rfl : args = #[v0, v1, v2, v3, v4, v5] := by cases args; simp_all
  obtain ⟨rfl, rfl⟩ := trodVars_none hV
  obtain ⟨a2, rfl, rfl, rfl, w2⟩ := open_int Try.underlying5 (hval 2 5 v2 rfl rfl) h2
  obtain ⟨a3, rfl, rfl, rfl, w3⟩ := open_int Try.underlying5 (hval 3 5 v3 rfl rfl) h3
  obtain ⟨a4, rfl, rfl, rfl, w4⟩ := open_int Try.underlying5 (hval 4 5 v4 rfl rfl) h4
  obtain ⟨a5, rfl, rfl, rfl, w5⟩ := open_int Try.underlying5 (hval 5 5 v5 rfl rfl) h5
  obtain ⟨cs, rfl, _⟩ := okWide_struct und25 (hval 0 25 v0 rfl rfl)
  obtain ⟨fuel, h0⟩ := h0
  obtain ⟨u1, u2, b, hcs, hL⟩ := open_book h0
  obtain rfl : cs = #[iv b.n, iv b.w, u1, u2] := by
    have h : cs.toList = [iv b.n, iv b.w, u1, u2] := hcs
    cases cs
    simp at h
    rw [h]
  obtain ⟨ba1, len1, cap1, rfl⟩ := okWide_slice Try.underlying23 (hval 1 23 v1 rfl rfl)
  obtain ⟨fuel1, h1⟩ := h1
  obtain ⟨x1, l1, e1, hl1⟩ := open_list h1
  obtain rfl : x1 = .slice ba1 len1 cap1 := by
    have h : [Value.slice ba1 len1 cap1] = [x1] := e1
    injection h with h _
    exact h.symm
  clear hA0 hval0 hval hA
  simp only [List.append_nil] at hW'
  simp only [List.append_nil] at hAk hlt
  refine (wrong_law u1 u2 b _ l1 a2 a3 a4 a5 W hL hl1 (bounds_u8 w2) (bounds_u8 w3) (bounds_u8 w4) (bounds_u8 w5)).mono fun e W' ⟨he, hg⟩ => ?_
  subst he
  refine ⟨_, rfl, post_below (pv := []) hW' hg (fun _ _ _ => (trodAll_cons_mk (shut_bool Try.underlying4 _) trodAll_mk0)) (fun sp hsp => ?_) (fun _ _ => rfl) (List.append_nil _).symm
    (ok_one (by kernel_rfl) rfl (okWide_bool_mk Try.underlying4 _))⟩
  rw [Try.params10]
  refine args_stay laid_out hg (fun t ht => ?_) hAk hlt sp (fun x hx => hsp x (by first | exact hx | simpa using hx))
  simp only [List.mem_cons, List.not_mem_nil, or_false] at ht
  rcases ht with rfl | rfl | rfl | rfl | rfl | rfl
  · exact ⟨by kernel_rfl, by have h : decide (25 < Try.prog.types.size) = true := (by kernel_rfl); exact of_decide_eq_true h⟩
  · exact ⟨by kernel_rfl, by have h : decide (23 < Try.prog.types.size) = true := (by kernel_rfl); exact of_decide_eq_true h⟩
  · exact ⟨by kernel_rfl, by have h : decide (5 < Try.prog.types.size) = true := (by kernel_rfl); exact of_decide_eq_true h⟩
  · exact ⟨by kernel_rfl, by have h : decide (5 < Try.prog.types.size) = true := (by kernel_rfl); exact of_decide_eq_true h⟩
  · exact ⟨by kernel_rfl, by have h : decide (5 < Try.prog.types.size) = true := (by kernel_rfl); exact of_decide_eq_true h⟩
  · exact ⟨by kernel_rfl, by have h : decide (5 < Try.prog.types.size) = true := (by kernel_rfl); exact of_decide_eq_true h⟩

theorem cipherWrong_over : Rows.cipherWrongRow.holds Try.pinned (OpenSpec.ofChange Rows.cipherWrongSpec) :=
  OpenClaim.holds_of_wide 10 Try.f10 rfl rfl rfl rfl rfl rfl rfl ⟨rfl, rfl, rfl, rfl, rfl⟩ rfl rfl rfl rfl rfl (by kernel_rfl) Try.func10 (by kernel_rfl)
    (of_decide_eq_true (by kernel_rfl)) (by unfold Func.isWrapper; first | (rw [if_pos (by decide +kernel)]; kernel_rfl) | (rw [if_neg (by decide +kernel)]; exact ⟨rfl, rfl⟩))
    (fun os started H enc _ => cipherWrong_lifted os started H enc)

theorem CipherWrong_holds : Rows.CipherWrongSaid := cipherWrong_over

end Go.Proofs.Ytoenhkhfpbglhaa
