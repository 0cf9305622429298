/-
  CipherNulls holds: nulls that are added to a plain text do not change its words. No condition.
-/
import Derived.Test.YtoenhkhfpbglhaaEa
import Derived.Deep.CutBlock
namespace Go.Proofs.Ytoenhkhfpbglhaa
open Go.RowKit Go.Shelf
attribute [local go_sem] Oper.semAt_some

section
variable {P : Program}
theorem rows_from {α : Type} {cells : α → List Value} {sz : Nat} {t e : TypeId} {i : TypeInfo} (ht : P.underlying t = some (.slice e)) (hi : P.info? e = some i) (hs : i.size = sz) {A : Option Addr} {cap : Nat} {l : List α} {r : Nat} (hr : r ≤ l.length) (k : IntKind) :
    ∃ V, (∀ w, (Instr.sliceAt t (.slice A l.length cap) (some (.int k (r : Int))) none none).run P w = .ok V w) ∧ ∀ w, RowsAt w (.slice A l.length cap) sz cells l → RowsAt w V sz cells (l.drop r) := by
  refine ⟨.slice (if cap = r then A else A.map (·.add (r * sz))) (l.length - r) (cap - r), fun w => ?_, fun w h => ?_⟩
  · have h0 : (0 : Int) ≤ (r : Int) := by omega
    have h1 : (r : Int) ≤ (l.length : Int) := by omega
    simp [Instr.sliceAt, Instr.slice, run_underlying ht, Instr.sliceBounds, run_sliceBound, sizeOf, typeInfo, hi, hs, h0, hr]
  · obtain ⟨hk, A', cap', e1, h2, h3, h4⟩ := h
    cases e1
    refine ⟨by rw [List.length_drop]; omega, _, _, by rw [List.length_drop], by rw [List.length_drop]; omega, by omega, fun hne => ?_⟩
    have hlt : r < l.length := by
      rcases Nat.lt_or_ge r l.length with h | h
      · exact h
      · exact absurd (List.drop_eq_nil_of_le h) hne
    obtain ⟨b, off, rfl, hb, hc⟩ := h4 (fun e => by rw [e] at hlt; simp at hlt)
    refine ⟨b, off + r * sz, ?_, hb, fun m x hx j u hu => ?_⟩
    · rw [if_neg (by omega)]
      unfold Addr.add
      by_cases h : r * sz = 0 <;> simp [h]
    · rw [List.getElem?_drop] at hx
      have := hc _ x hx j u hu
      rw [Nat.add_mul] at this
      rw [show off + r * sz + m * sz + j = off + (r * sz + m * sz) + j by omega]
      exact this
end
/-- A null is put into a text at an index. -/
theorem null_in {b : Bk} {l : List Int} {k : Nat} {z : Int} (hr : readyB' b l) (hl : l.length ≤ 9) (hz : b.w ≤ z ∧ z < b.n) (h1 : 1 ≤ b.w) :
    readyB' b (l.take k ++ z :: l.drop k) ∧ (l.take k ++ z :: l.drop k).filter (fun x => !nullB b.w x) = l.filter (fun x => !nullB b.w x) := by
  obtain ⟨e, _, h3⟩ := hr
  have hl2 : (l.take k ++ z :: l.drop k).length = l.length + 1 := by simp; omega
  refine ⟨⟨e, by omega, ?_⟩, ?_⟩
  · rw [List.all_eq_true] at h3 ⊢
    intro x hx
    rcases List.mem_append.1 hx with h | h
    · exact h3 x (List.mem_of_mem_take h)
    · rcases List.mem_cons.1 h with rfl | h
      · rw [belowB_iff]; omega
      · exact h3 x (List.mem_of_mem_drop h)
  · have hn : nullB b.w z = true := by simp [nullB]; omega
    rw [List.filter_append, List.filter_cons_of_neg (by rw [hn]; simp), ← List.filter_append, List.take_append_drop]
set_option maxRecDepth 100000 in
set_option maxHeartbeats 3000000 in
theorem nulls_law (v1 v2 : Value) (b : Bk) (v : Value) (l : List Int) (x f y : Int) (w : World) (hL : BookAny w v1 v2 b) (hl : RowsAny w v 1 ic l) (hx : 0 ≤ x ∧ x ≤ 255) (hf : 0 ≤ f ∧ f ≤ 255) (hy : 0 ≤ y ∧ y ≤ 255) :
    Calls Try.prog 11 #[.agg #[iv b.n, iv b.w, v1, v2], v, .int .u8 x, .int .u8 f, .int .u8 y] w fun e w' => e = .returned (.bool true) ∧ Below w.heap.size w w' := by
  obtain ⟨i0, hi0, hz0, hz1, hz2⟩ := info_parts int_info
  obtain ⟨A1, cap1, rfl, g1, g2⟩ := hL.ks.form
  obtain ⟨A2, cap2, rfl, g3, g4⟩ := hL.ds.form
  obtain ⟨A3, cap3, rfl, g5, g6⟩ := hl.form
  obtain ⟨hx0, hx1⟩ := hx
  obtain ⟨hf0, hf1⟩ := hf
  obtain ⟨hy0, hy1⟩ := hy
  have HA := Lib.hid hL
  have HVA := Lib.hid hl
  clear hL hl
  cases hr : readyT b l with
  | false =>
    have Hr := Lib.hid hr
    clear hr
    go_enter Try.func11, Try.ntmps11
    go_wp2_with fail
    refine (ready_law _ _ b _ l _ (HA.out.kept (up_alloc up0 _)) (HVA.out.kept (up_alloc up0 _))).mono ?_
    rintro e w1 ⟨rfl, hb⟩
    rw [Hr.out]
    have HB := Lib.hid (up_later (up_alloc (up0 (w := w)) (.cells #[iv b.n, iv b.w, .slice A1 b.ks.length cap1, .slice A2 b.ds.length cap2] 25)) hb)
    have B1 := Lib.hid ((Box.new (w := w) (t := 25) (cs := #[iv b.n, iv b.w, .slice A1 b.ks.length cap1, .slice A2 b.ds.length cap2]) rfl).kept hb)
    clear hb
    have BB := B1.out
    have cB := fun i => BB.cell i
    have fB := fun i => BB.free i
    have lB := BB.lt
    have mB := Nat.lt_succ_of_lt lB
    go_wp2_with fail
    clear cB fB lB mB BB
    refine (awake_any _).mono ?_
    rintro e w9 ⟨rfl, hb⟩
    go_wp2_with fail
    go_ret
    exact ⟨rfl, up_later HB.out hb⟩
  | true =>
  have Hr := Lib.hid hr
  obtain ⟨h8, hr'⟩ := readyT_iff.1 hr
  have HL := Lib.hid (HA.out.at h8.1 h8.2)
  have hok := BookOK.of hr'.1
  have hd0 := hok.d1
  have hd8 := hok.d2
  have hn0 := hok.n1
  have hn1 := hok.n2
  have hw1 := hok.w1
  have hw2 := hok.w2
  have hl10 := hr'.2.1
  by_cases c9 : 9 < l.length
  · have n9 : (9 : Int) < (l.length : Int) := by omega
    clear hr hr' hok h8 hl10
    go_enter Try.func11, Try.ntmps11
    go_wp2_with fail
    refine (ready_law _ _ b _ l _ (HA.out.kept (up_alloc up0 _)) (HVA.out.kept (up_alloc up0 _))).mono ?_
    rintro e w1 ⟨rfl, hb⟩
    rw [Hr.out]
    have HB := Lib.hid (up_later (up_alloc (up0 (w := w)) (.cells #[iv b.n, iv b.w, .slice A1 b.ks.length cap1, .slice A2 b.ds.length cap2] 25)) hb)
    have B1 := Lib.hid ((Box.new (w := w) (t := 25) (cs := #[iv b.n, iv b.w, .slice A1 b.ks.length cap1, .slice A2 b.ds.length cap2]) rfl).kept hb)
    clear hb
    have BB := B1.out
    have cB := fun i => BB.cell i
    have fB := fun i => BB.free i
    have lB := BB.lt
    have mB := Nat.lt_succ_of_lt lB
    go_wp2_with fail
    clear cB fB lB mB BB
    refine (awake_any _).mono ?_
    rintro e w9 ⟨rfl, hb⟩
    go_wp2_with fail
    go_ret
    exact ⟨rfl, up_later HB.out hb⟩
  have n9 : ¬ (9 : Int) < (l.length : Int) := by omega
  by_cases cw : b.w = b.n
  · have e1 : (b.w == b.n) = true := by rw [beq_iff_eq]; exact cw
    clear hr hr' hok h8 hl10 cw
    go_enter Try.func11, Try.ntmps11
    go_wp2_with fail
    refine (ready_law _ _ b _ l _ (HA.out.kept (up_alloc up0 _)) (HVA.out.kept (up_alloc up0 _))).mono ?_
    rintro e w1 ⟨rfl, hb⟩
    rw [Hr.out]
    have HB := Lib.hid (up_later (up_alloc (up0 (w := w)) (.cells #[iv b.n, iv b.w, .slice A1 b.ks.length cap1, .slice A2 b.ds.length cap2] 25)) hb)
    have B1 := Lib.hid ((Box.new (w := w) (t := 25) (cs := #[iv b.n, iv b.w, .slice A1 b.ks.length cap1, .slice A2 b.ds.length cap2]) rfl).kept hb)
    clear hb
    have BB := B1.out
    have cB := fun i => BB.cell i
    have fB := fun i => BB.free i
    have lB := BB.lt
    have mB := Nat.lt_succ_of_lt lB
    go_wp2_with fail
    clear cB fB lB mB BB
    refine (awake_any _).mono ?_
    rintro e w9 ⟨rfl, hb⟩
    go_wp2_with fail
    go_ret
    exact ⟨rfl, up_later HB.out hb⟩
  have e1 : (b.w == b.n) = false := by rw [beq_eq_false_iff_ne]; exact cw
  have HV := Lib.hid (HVA.out.rows (by omega))
  have m0 : 0 ≤ x % (b.ds.length : Int) := Int.emod_nonneg _ (by omega)
  have m1 : x % (b.ds.length : Int) < b.ds.length := Int.emod_lt_of_pos _ (by omega)
  obtain ⟨day, hday⟩ : ∃ day : Nat, x % (b.ds.length : Int) = day := ⟨(x % (b.ds.length : Int)).toNat, by omega⟩
  have hdl : day < b.ds.length := by omega
  have k0 : 0 ≤ f % ((l.length : Int) + 1) := Int.emod_nonneg _ (by omega)
  have k1 : f % ((l.length : Int) + 1) < (l.length : Int) + 1 := Int.emod_lt_of_pos _ (by omega)
  obtain ⟨k, hk⟩ : ∃ k : Nat, f % ((l.length : Int) + 1) = k := ⟨(f % ((l.length : Int) + 1)).toNat, by omega⟩
  have hkl : k ≤ l.length := by omega
  have r0 : 0 ≤ y % (b.n - b.w) := Int.emod_nonneg _ (by omega)
  have r1 : y % (b.n - b.w) < b.n - b.w := Int.emod_lt_of_pos _ (by omega)
  obtain ⟨r, hrr⟩ : ∃ r, y % (b.n - b.w) = r := ⟨_, rfl⟩
  rw [hrr] at r0 r1
  have hT6 : y.tmod (b.n - b.w) = r := by rw [Int.tmod_eq_emod_of_nonneg hy0]; exact hrr
  obtain ⟨z, hz⟩ : ∃ z, b.w + r = z := ⟨_, rfl⟩
  obtain ⟨hM1, hM2⟩ := null_in (k := k) (z := z) hr' (by omega) (by omega) hw1
  obtain ⟨M, hM⟩ : ∃ M, l.take k ++ z :: l.drop k = M := ⟨_, rfl⟩
  rw [hM] at hM1 hM2
  obtain ⟨F, hF⟩ : ∃ F, l.filter (fun x => !nullB b.w x) = F := ⟨_, rfl⟩
  obtain ⟨D, hD⟩ : ∃ D, dispatchI b day l = D := ⟨_, rfl⟩
  obtain ⟨C, hC⟩ : ∃ C, dispatchI b day M = C := ⟨_, rfl⟩
  have hc1 := code_ready hr' hdl
  have hc2 := code_ready hM1 hdl
  have hb1 := decode_back hr' hdl
  have hb2 := decode_back hM1 hdl
  have hD2 := dispatch_len b day l
  have hC2 := dispatch_len b day M
  have hML : M.length = l.length + 1 := by rw [← hM]; simp; omega
  rw [hD] at hc1 hb1 hD2
  rw [hC] at hc2 hb2 hC2
  rw [hF] at hb1
  rw [hM2, hF] at hb2
  have HC1 := Lib.hid hc1
  have HC2 := Lib.hid hc2
  have HB1 := Lib.hid hb1
  have HB2 := Lib.hid hb2
  have HM := Lib.hid hM
  have HDl := Lib.hid (show D.length ≤ 1000 by omega)
  have HCl := Lib.hid (show C.length ≤ 1000 by omega)
  have HMl := Lib.hid (show M.length ≤ 1000 by omega)
  have HMk := Lib.hid (show k + 1 + (l.drop k).length = M.length by rw [hML, List.length_drop]; omega)
  have HDay := Lib.hid hday
  have HK := Lib.hid hk
  obtain ⟨T, hT⟩ : ∃ T, l.take k = T := ⟨_, rfl⟩
  obtain ⟨U, hU⟩ : ∃ U, l.drop k = U := ⟨_, rfl⟩
  obtain ⟨V1, hV1, hV2⟩ := rows_upto (P := Try.prog) (cells := ic) (sz := 1) (A := A3) (cap := cap3) (l := l) (r := k) Try.underlying23 hi0 hkl g5 .i64
  obtain ⟨V3, hV3, hV4⟩ := rows_from (P := Try.prog) (cells := ic) (sz := 1) (A := A3) (cap := cap3) (l := l) (r := k) Try.underlying23 hi0 hz1 hkl .i64
  rw [hT] at hV2
  rw [hU] at hV4
  rw [hT, hU] at HM
  rw [hU] at HMk
  have HV1 := Lib.hid hV1
  have HV2 := Lib.hid hV2
  have HV3 := Lib.hid hV3
  have HV4 := Lib.hid hV4
  have HTl := Lib.hid (show T.length = k by rw [← hT, List.length_take]; omega)
  have n0 : ¬ (b.ds.length : Int) = 0 := by omega
  have z0 : ((b.ds.length : Int) == 0) = false := by rw [beq_eq_false_iff_ne]; omega
  have n1 : ¬ (l.length : Int) + 1 = 0 := by omega
  have z1 : ((l.length : Int) + 1 == 0) = false := by rw [beq_eq_false_iff_ne]; omega
  have hWb : IntKind.i64.wrap (b.n - b.w) = b.n - b.w := wrapK_in _ 1000 (by omega) (by omega)
  have hWy : IntKind.i64.wrap y = y := wrapK_in _ 1000 (by omega) (by omega)
  have hWz : IntKind.i64.wrap (b.w + r) = z := by rw [hz]; exact wrapK_in _ 1000 (by omega) (by omega)
  have hzb : ¬ b.n - b.w = 0 := by omega
  have hzb' : (b.n - b.w == 0) = false := by rw [beq_eq_false_iff_ne]; omega
  clear hr hr' hok hday hdl hk hrr hz hM1 hM2 hM hF hD hC hc1 hc2 hb1 hb2 hD2 hC2 hML hT hU hV1 hV2 hV3 hV4 h8 cw c9
  go_enter Try.func11, Try.ntmps11
  go_wp2_with fail
  refine (ready_law _ _ b _ l _ (HA.out.kept (up_alloc up0 _)) (HVA.out.kept (up_alloc up0 _))).mono ?_
  rintro e w1 ⟨rfl, hb⟩
  rw [Hr.out]
  have HB := Lib.hid (up_later (up_alloc (up0 (w := w)) (.cells #[iv b.n, iv b.w, .slice A1 b.ks.length cap1, .slice A2 b.ds.length cap2] 25)) hb)
  have B1 := Lib.hid ((Box.new (w := w) (t := 25) (cs := #[iv b.n, iv b.w, .slice A1 b.ks.length cap1, .slice A2 b.ds.length cap2]) rfl).kept hb)
  clear hb
  have BB := B1.out
  have cB := fun i => BB.cell i
  have fB := fun i => BB.free i
  have lB := BB.lt
  have mB := Nat.lt_succ_of_lt lB
  go_wp2_with fail
  clear cB fB lB mB BB
  simp only [HK.out, HDay.out]
  have N := B1.out
  have hw1z := HB.out.size
  apply wp_region_by 16 [(Fact.eq _), (Fact.eq _), (Fact.eq V1), (Fact.owned w1.heap.size k (T.map iv)), (Fact.eq _), (Fact.eq _), (Fact.eq _), (Fact.eq _), (Fact.eq _), (Fact.eq _), (Fact.eq _), (Fact.eq _), (Fact.eq _), (Fact.eq _), (Fact.eq _), (Fact.sl 1 3 #[iv z])]
  case hm => kernel_rfl
  case hB => kernel_rfl
  case hA => (intro vs; simp only [List.take_succ_cons, List.take_zero, putAll, if_true, Act.put, List.setIfInBounds_toArray, List.set_cons_zero, List.set_cons_succ]; exact rfl)
  case hstep =>
    intro vs
    refine And.intro (fun w hw hd => ?_) ?_
    · refine ite_yes rfl ?_
      simp only [Gives]
      go_simp
      exact ⟨Below.refl _ _, rfl, fun h => by cases h⟩
    refine And.intro (fun w hw hd => ?_) ?_
    · refine ite_yes rfl ?_
      simp only [Gives]
      go_simp
      exact ⟨Below.refl _ _, rfl, fun h => by cases h⟩
    refine And.intro (fun w hw hd => ?_) ?_
    · have d0 := hd 0 (by decide) rfl
      change vs 0 = _ at d0
      have d1 := hd 1 (by decide) rfl
      change vs 1 = _ at d1
      refine ite_yes rfl ?_
      simp only [Gives]
      refine gives_slice 23 (.tmp 53) none (some (.tmp 54)) rfl (.slice A3 l.length cap3) V1 none (some (.int .i64 (k : Int))) ?_ rfl ?_ (HV1.out _) ⟨Below.refl _ _, rfl, fun h => by cases h⟩
      all_goals (go_simp)
    refine And.intro (fun w hw hd => ?_) ?_
    · have d2 := hd 2 (by decide) rfl
      change vs 2 = _ at d2
      refine ite_yes rfl ?_
      simp only [Gives]
      go_simp
      refine (list_own V1 T _ (HV2.out _ (HV.out.kept (up_later HB.out hw)))).mono ?_
      rintro e w7 ⟨u, rfl, ho, hb⟩
      rw [HTl.out] at ho
      obtain ⟨A7, p7, rfl⟩ := own_form' ho
      exact ⟨_, rfl, hb, ⟨A7, p7, rfl, own_mono ho hw.size⟩, fun h => by cases h⟩
    refine And.intro (fun w hw hd => ?_) ?_
    · refine ite_yes rfl ?_
      simp only [Gives]
      go_simp
      exact ⟨Below.refl _ _, rfl, fun h => by cases h⟩
    refine And.intro (fun w hw hd => ?_) ?_
    · have d4 := hd 4 (by decide) rfl
      change vs 4 = _ at d4
      refine ite_yes rfl ?_
      have c_N := fun i => (N.kept hw).cell i
      simp only [Gives]
      go_simp
      exact ⟨Below.refl _ _, rfl, fun h => by cases h⟩
    refine And.intro (fun w hw hd => ?_) ?_
    · refine ite_yes rfl ?_
      simp only [Gives]
      go_simp
      exact ⟨Below.refl _ _, rfl, fun h => by cases h⟩
    refine And.intro (fun w hw hd => ?_) ?_
    · have d6 := hd 6 (by decide) rfl
      change vs 6 = _ at d6
      refine ite_yes rfl ?_
      simp only [Gives]
      go_simp
      exact ⟨Below.refl _ _, rfl, fun h => by cases h⟩
    refine And.intro (fun w hw hd => ?_) ?_
    · refine ite_yes rfl ?_
      simp only [Gives]
      go_simp
      exact ⟨Below.refl _ _, rfl, fun h => by cases h⟩
    refine And.intro (fun w hw hd => ?_) ?_
    · have d8 := hd 8 (by decide) rfl
      change vs 8 = _ at d8
      refine ite_yes rfl ?_
      have c_N := fun i => (N.kept hw).cell i
      simp only [Gives]
      go_simp
      exact ⟨Below.refl _ _, rfl, fun h => by cases h⟩
    refine And.intro (fun w hw hd => ?_) ?_
    · refine ite_yes rfl ?_
      simp only [Gives]
      go_simp
      exact ⟨Below.refl _ _, rfl, fun h => by cases h⟩
    refine And.intro (fun w hw hd => ?_) ?_
    · have d10 := hd 10 (by decide) rfl
      change vs 10 = _ at d10
      refine ite_yes rfl ?_
      have c_N := fun i => (N.kept hw).cell i
      simp only [Gives]
      go_simp
      exact ⟨Below.refl _ _, rfl, fun h => by cases h⟩
    refine And.intro (fun w hw hd => ?_) ?_
    · have d9 := hd 9 (by decide) rfl
      change vs 9 = _ at d9
      have d11 := hd 11 (by decide) rfl
      change vs 11 = _ at d11
      refine ite_yes rfl ?_
      simp only [Gives]
      go_simp
      exact ⟨Below.refl _ _, rfl, fun h => by cases h⟩
    refine And.intro (fun w hw hd => ?_) ?_
    · have d7 := hd 7 (by decide) rfl
      change vs 7 = _ at d7
      have d12 := hd 12 (by decide) rfl
      change vs 12 = _ at d12
      refine ite_yes rfl ?_
      simp only [Gives]
      go_simp
      exact ⟨Below.refl _ _, rfl, fun h => by cases h⟩
    refine And.intro (fun w hw hd => ?_) ?_
    · have d5 := hd 5 (by decide) rfl
      change vs 5 = _ at d5
      have d13 := hd 13 (by decide) rfl
      change vs 13 = _ at d13
      refine ite_yes rfl ?_
      simp only [Gives]
      go_simp
      exact ⟨Below.refl _ _, rfl, fun h => by cases h⟩
    refine And.intro (fun w hw hd => ?_) ?_
    · have d14 := hd 14 (by decide) rfl
      change vs 14 = _ at d14
      refine ite_yes rfl ?_
      simp only [Gives]
      go_simp
      exact ⟨(Below.refl _ _).alloc (Nat.le_refl _) _, ⟨_, rfl, Box.new rfl⟩, fun h => by cases h⟩
    exact trivial
  intro vs wt hw hd hne hlo
  have d0 := hd 0 (by decide)
  change vs 0 = _ at d0
  have d1 := hd 1 (by decide)
  change vs 1 = _ at d1
  have d2 := hd 2 (by decide)
  change vs 2 = _ at d2
  have d3 := hd 3 (by decide)
  obtain ⟨A9, p9, d3, O9⟩ := d3
  have d4 := hd 4 (by decide)
  change vs 4 = _ at d4
  have d5 := hd 5 (by decide)
  change vs 5 = _ at d5
  have d6 := hd 6 (by decide)
  change vs 6 = _ at d6
  have d7 := hd 7 (by decide)
  change vs 7 = _ at d7
  have d8 := hd 8 (by decide)
  change vs 8 = _ at d8
  have d9 := hd 9 (by decide)
  change vs 9 = _ at d9
  have d10 := hd 10 (by decide)
  change vs 10 = _ at d10
  have d11 := hd 11 (by decide)
  change vs 11 = _ at d11
  have d12 := hd 12 (by decide)
  change vs 12 = _ at d12
  have d13 := hd 13 (by decide)
  change vs 13 = _ at d13
  have d14 := hd 14 (by decide)
  change vs 14 = _ at d14
  have d15 := hd 15 (by decide)
  obtain ⟨m15, d15, M15⟩ := d15
  simp only [d0, d1, d4, d5, d6, d7, d8, d9, d10, d11, d12, d13, d14, List.drop_succ_cons, List.drop_zero]
  have N := N.kept hw
  have c_N := fun i => N.cell i
  have f_N := fun i => N.free i
  clear hd hne hlo d0 d1 d4 d5 d6 d7 d8 d9 d10 d11 d12 d13 d14
  simp only [Nat.zero_add, Nat.reduceAdd, d2, d3, d15]
  have hszw := hw.size
  go_upto_region 6 with (at_builtin; refine wpList_append_own_at _ rfl (.tmp 56) (.tmp 68) 23 rfl w1.heap.size 3 i0 _ 1 8 Try.underlying23 hi0 hz0 hz1 hz2 rfl (by decide) _ _ _ rfl O9 ⟨m15, 0, none⟩ 1 1 [iv z] rfl rfl (box_newsM M15) (by simp [Value.oneCell']) (by unfold maxLen; omega) (by omega) (by omega) ?_; intro v' w2 hown' hgrow _ _)
  have H2 := Lib.hid (Below.grown hw hgrow (by omega) fun g e => (O9.lt g e).1)
  obtain ⟨A8, p8, rfl⟩ := own_form' hown'
  have HO := Lib.hid hown'
  clear d2 d3 d15 O9 M15 hw hgrow hown' c_N f_N N hWb hWy hWz hzb hzb'
  refine wp_region_lit ?_
  apply wpList_by 4 [(Fact.eq _), (Fact.eq _), (Fact.eq _), (Fact.eq V3)]
  case hB => kernel_rfl
  case hA => (intro vs; simp only [List.take_succ_cons, List.take_zero, putAll, if_true, Act.put, List.setIfInBounds_toArray, List.set_cons_zero, List.set_cons_succ]; exact rfl)
  case hstep =>
    intro vs
    refine And.intro (fun w hw hd => ?_) ?_
    · refine ite_yes rfl ?_
      simp only [Gives]
      go_simp
      exact ⟨Below.refl _ _, rfl, fun h => by cases h⟩
    refine And.intro (fun w hw hd => ?_) ?_
    · refine ite_yes rfl ?_
      simp only [Gives]
      go_simp
      exact ⟨Below.refl _ _, rfl, fun h => by cases h⟩
    refine And.intro (fun w hw hd => ?_) ?_
    · refine ite_yes rfl ?_
      simp only [Gives]
      go_simp
      exact ⟨Below.refl _ _, rfl, fun h => by cases h⟩
    refine And.intro (fun w hw hd => ?_) ?_
    · have d1 := hd 1 (by decide) rfl
      change vs 1 = _ at d1
      have d2 := hd 2 (by decide) rfl
      change vs 2 = _ at d2
      refine ite_yes rfl ?_
      simp only [Gives]
      refine gives_slice 23 (.tmp 71) (some (.tmp 72)) none rfl (.slice A3 l.length cap3) V3 (some (.int .i64 (k : Int))) none ?_ ?_ rfl (HV3.out _) ⟨Below.refl _ _, rfl, fun h => by cases h⟩
      all_goals (go_simp)
    exact trivial
  intro vs wt hw hd hne hlo
  have d0 := hd 0 (by decide)
  change vs 0 = _ at d0
  have d1 := hd 1 (by decide)
  change vs 1 = _ at d1
  have d2 := hd 2 (by decide)
  change vs 2 = _ at d2
  have d3 := hd 3 (by decide)
  change vs 3 = _ at d3
  simp only [d0, d1, d2, List.drop_succ_cons, List.drop_zero]
  clear hd hne hlo d0 d1 d2
  simp only [Nat.zero_add, Nat.reduceAdd, d3]
  have hsz2 := H2.out.size
  have hszw := hw.size
  have hU9 := HMk.out
  have hM9 := HMl.out
  go_upto_region 7 with (at_builtin; refine wpList_append_rows rfl (.tmp 70) (.tmp 73) 23 rfl w1.heap.size 3 i0 _ 1 8 Try.underlying23 hi0 hz0 hz1 hz2 rfl (by decide) _ _ _ rfl (own_below HO.out hw) ic U V3 rfl (HV4.out _ (HV.out.kept (up_later HB.out (up_later H2.out hw)))) (fun _ => rfl) (by simp [ic, Value.oneCell']) (by unfold maxLen; omega) (by omega) (by omega) ?_; intro v' w3 hown' hgrow _)
  have H3 := Lib.hid (Below.grown (up_later H2.out hw) hgrow (by omega) fun g e => ((own_below HO.out hw).lt g e).1)
  have hown' : w3.ownsRow w1.heap.size 3 1 v' M.length (M.map iv) := by
    rw [flat_ic, hU9] at hown'
    have e : M.map iv = T.map iv ++ iv z :: U.map iv := by rw [← HM.out, List.map_append, List.map_cons]
    rw [e]
    simpa using hown'
  clear hU9 hM9
  obtain ⟨A8, p8, rfl⟩ := own_form' hown'
  have HMV := Lib.hid (ints_of_own hown' rfl HMl.out)
  have HB := Lib.hid (up_later HB.out H3.out)
  have B1 := Lib.hid (B1.out.kept H3.out)
  clear hsz2 hszw hw hgrow hown' HO H2 H3 d3
  have BB := B1.out
  have cB := fun i => BB.cell i
  have fB := fun i => BB.free i
  have lB := BB.lt
  have mB := Nat.lt_succ_of_lt lB
  go_wp2_with fail
  clear cB fB lB mB BB
  refine (Book_any _ _ b _ (HL.out.kept HB.out)).mono ?_
  rintro e w2 ⟨a1, a2, rfl, hq, hb⟩
  have HQ := Lib.hid hq
  clear hq
  have HB := Lib.hid (up_later HB.out hb)
  have B1 := Lib.hid (B1.out.kept hb)
  have HMV := Lib.hid (HMV.out.kept hb)
  clear hb
  unfold bookV
  have BB := B1.out
  have cB := fun i => BB.cell i
  have fB := fun i => BB.free i
  have lB := BB.lt
  have mB := Nat.lt_succ_of_lt lB
  go_wp2_with fail
  clear cB fB lB mB BB
  refine (list_any _ l _ (HV.out.kept HB.out)).mono ?_
  rintro e w3 ⟨lv, rfl, hq, hb⟩
  have HP := Lib.hid hq
  clear hq
  have HB := Lib.hid (up_later HB.out hb)
  have B1 := Lib.hid (B1.out.kept hb)
  have HQ := Lib.hid (HQ.out.kept hb)
  have HMV := Lib.hid (HMV.out.kept hb)
  clear hb
  have BB := B1.out
  have cB := fun i => BB.cell i
  have fB := fun i => BB.free i
  have lB := BB.lt
  have mB := Nat.lt_succ_of_lt lB
  go_wp2_with fail
  clear cB fB lB mB BB
  refine (Code_any _ _ _ b day l _ HQ.out HP.out).mono ?_
  rintro e w4 ⟨dv, rfl, hq, hb⟩
  rw [HC1.out] at hq ⊢
  obtain ⟨Ad, pd, rfl⟩ := own_form' hq
  have HX := Lib.hid (ints_of_own hq rfl HDl.out)
  clear hq HQ HP
  have HB := Lib.hid (up_later HB.out hb)
  have B1 := Lib.hid (B1.out.kept hb)
  have HMV := Lib.hid (HMV.out.kept hb)
  clear hb
  have BB := B1.out
  have cB := fun i => BB.cell i
  have fB := fun i => BB.free i
  have lB := BB.lt
  have mB := Nat.lt_succ_of_lt lB
  go_wp2_with fail
  clear cB fB lB mB BB
  refine (Book_any _ _ b _ (HL.out.kept HB.out)).mono ?_
  rintro e w2 ⟨a1, a2, rfl, hq, hb⟩
  have HQ := Lib.hid hq
  clear hq
  have HB := Lib.hid (up_later HB.out hb)
  have B1 := Lib.hid (B1.out.kept hb)
  have HMV := Lib.hid (HMV.out.kept hb)
  have HX := Lib.hid (HX.out.kept hb)
  clear hb
  unfold bookV
  have BB := B1.out
  have cB := fun i => BB.cell i
  have fB := fun i => BB.free i
  have lB := BB.lt
  have mB := Nat.lt_succ_of_lt lB
  go_wp2_with fail
  clear cB fB lB mB BB
  refine (list_any _ M _ HMV.out).mono ?_
  rintro e w3 ⟨lv, rfl, hq, hb⟩
  have HP := Lib.hid hq
  clear hq
  have HB := Lib.hid (up_later HB.out hb)
  have B1 := Lib.hid (B1.out.kept hb)
  have HQ := Lib.hid (HQ.out.kept hb)
  have HMV := Lib.hid (HMV.out.kept hb)
  have HX := Lib.hid (HX.out.kept hb)
  clear hb
  have BB := B1.out
  have cB := fun i => BB.cell i
  have fB := fun i => BB.free i
  have lB := BB.lt
  have mB := Nat.lt_succ_of_lt lB
  go_wp2_with fail
  clear cB fB lB mB BB
  refine (Code_any _ _ _ b day M _ HQ.out HP.out).mono ?_
  rintro e w4 ⟨cv, rfl, hq, hb⟩
  rw [HC2.out] at hq ⊢
  obtain ⟨Ac, pc, rfl⟩ := own_form' hq
  have HY := Lib.hid (ints_of_own hq rfl HCl.out)
  clear hq HQ HP
  have HB := Lib.hid (up_later HB.out hb)
  have B1 := Lib.hid (B1.out.kept hb)
  have HMV := Lib.hid (HMV.out.kept hb)
  have HX := Lib.hid (HX.out.kept hb)
  clear hb
  have BB := B1.out
  have cB := fun i => BB.cell i
  have fB := fun i => BB.free i
  have lB := BB.lt
  have mB := Nat.lt_succ_of_lt lB
  go_wp2_with fail
  clear cB fB lB mB BB
  refine (Book_any _ _ b _ (HL.out.kept HB.out)).mono ?_
  rintro e w2 ⟨a1, a2, rfl, hq, hb⟩
  have HQ := Lib.hid hq
  clear hq
  have HB := Lib.hid (up_later HB.out hb)
  have B1 := Lib.hid (B1.out.kept hb)
  have HMV := Lib.hid (HMV.out.kept hb)
  have HX := Lib.hid (HX.out.kept hb)
  have HY := Lib.hid (HY.out.kept hb)
  clear hb
  unfold bookV
  have BB := B1.out
  have cB := fun i => BB.cell i
  have fB := fun i => BB.free i
  have lB := BB.lt
  have mB := Nat.lt_succ_of_lt lB
  go_wp2_with fail
  clear cB fB lB mB BB
  refine (Decode_any _ _ _ b day D _ HQ.out HX.out).mono ?_
  rintro e w4 ⟨pv, wv, rfl, hp, hwv, hb⟩
  rw [HB1.out] at hp hwv ⊢
  have HW := Lib.hid hwv
  clear hp hwv HQ HX
  have HB := Lib.hid (up_later HB.out hb)
  have B1 := Lib.hid (B1.out.kept hb)
  have HMV := Lib.hid (HMV.out.kept hb)
  have HY := Lib.hid (HY.out.kept hb)
  clear hb
  have BB := B1.out
  have cB := fun i => BB.cell i
  have fB := fun i => BB.free i
  have lB := BB.lt
  have mB := Nat.lt_succ_of_lt lB
  go_wp2_with fail
  clear cB fB lB mB BB
  refine (Book_any _ _ b _ (HL.out.kept HB.out)).mono ?_
  rintro e w2 ⟨a1, a2, rfl, hq, hb⟩
  have HQ := Lib.hid hq
  clear hq
  have HB := Lib.hid (up_later HB.out hb)
  have B1 := Lib.hid (B1.out.kept hb)
  have HMV := Lib.hid (HMV.out.kept hb)
  have HY := Lib.hid (HY.out.kept hb)
  have HW := Lib.hid (HW.out.kept hb)
  clear hb
  unfold bookV
  have BB := B1.out
  have cB := fun i => BB.cell i
  have fB := fun i => BB.free i
  have lB := BB.lt
  have mB := Nat.lt_succ_of_lt lB
  go_wp2_with fail
  clear cB fB lB mB BB
  refine (Decode_any _ _ _ b day C _ HQ.out HY.out).mono ?_
  rintro e w4 ⟨qv, uv, rfl, hp, hwv, hb⟩
  rw [HB2.out] at hp hwv ⊢
  have HU := Lib.hid hwv
  have HP := Lib.hid hp
  clear hp hwv HQ HY
  have HB := Lib.hid (up_later HB.out hb)
  have B1 := Lib.hid (B1.out.kept hb)
  have HMV := Lib.hid (HMV.out.kept hb)
  have HW := Lib.hid (HW.out.kept hb)
  clear hb
  have BB := B1.out
  have cB := fun i => BB.cell i
  have fB := fun i => BB.free i
  have lB := BB.lt
  have mB := Nat.lt_succ_of_lt lB
  go_wp2_with fail
  clear cB fB lB mB BB
  refine (same_any _ _ F F _ HW.out HU.out).mono ?_
  rintro e w7 ⟨rfl, hb⟩
  rw [decide_eq_true (p := F = F) rfl]
  have HB := Lib.hid (up_later HB.out hb)
  have B1 := Lib.hid (B1.out.kept hb)
  have HMV := Lib.hid (HMV.out.kept hb)
  have HP := Lib.hid (HP.out.kept hb)
  clear hb
  have BB := B1.out
  have cB := fun i => BB.cell i
  have fB := fun i => BB.free i
  have lB := BB.lt
  have mB := Nat.lt_succ_of_lt lB
  go_wp2_with fail
  clear cB fB lB mB BB
  refine (same_any _ _ M M _ HP.out HMV.out).mono ?_
  rintro e w7 ⟨rfl, hb⟩
  rw [decide_eq_true (p := M = M) rfl]
  have HB := Lib.hid (up_later HB.out hb)
  have B1 := Lib.hid (B1.out.kept hb)
  clear hb
  have BB := B1.out
  have cB := fun i => BB.cell i
  have fB := fun i => BB.free i
  have lB := BB.lt
  have mB := Nat.lt_succ_of_lt lB
  go_wp2_with fail
  clear cB fB lB mB BB
  refine (awake_any _).mono ?_
  rintro e w9 ⟨rfl, hb⟩
  go_wp2_with fail
  go_ret
  exact ⟨rfl, up_later HB.out hb⟩
end Go.Proofs.Ytoenhkhfpbglhaa

namespace Go.Proofs.Ytoenhkhfpbglhaa
open Go.ChangeShapes Go.WideShapes Go.ChangeAt Go.RowKit

set_option maxRecDepth 100000 in
theorem cipherNulls_lifted (os : Os) (started : os.Started) (H : Type) (enc : TypeId × Value → H) :
    ReturnsInHanded {} Try.checked os 11 .any (Rows.cipherNullsSpec.pre6 enc Try.prog Try.f11 Rows.cipherNullsRow.domain false) (Rows.cipherNullsSpec.post enc Try.prog Try.f11 false true false false) := by
  refine returnsInHanded_of_change (C := Try.checked) own_knob started (by kernel_rfl) Try.func11
    (ChangeSpec.witness6 (enc := enc) (C := Try.checked) false ⟨#[], #[.agg #[.int .i64 0, .int .i64 0, .slice Option.none 0 0, .slice Option.none 0 0], .slice Option.none 0 0, .int .u8 0, .int .u8 0, .int .u8 0], []⟩ 8 (by kernel_rfl) (by kernel_rfl) (by kernel_rfl) (by kernel_rfl)) ?_
  intro W base args ds gs before hval0 hW hcnd _
  have hval : ∀ (j : Nat) t v, Try.f11.params[j]? = some t → args[j]? = some v → Value.okWide Try.prog W .any base t v := hval0
  have hW' := hW
  obtain ⟨p, q, hA0, hV, rfl, hfz, hnd⟩ := hW
  have hA : DataW.TrodAll enc Try.prog W 0 (fun _ => true) true Try.f11.params.toList args.toList ds p := hA0
  rw [Try.params11] at hA hval
  have hlt : ∀ x ∈ p, x.block < W.heap.size := fun x hx => hW'.lt x (List.mem_append_left _ hx)
  have hAk := hA
  obtain ⟨v0, vs0, d0, ds0, p0, q0, hargs, rfl, rfl, h0, r0⟩ := trodAll_cons hA
  obtain ⟨v1, vs1, d1, ds1, p1, q1, rfl, rfl, rfl, h1, r1⟩ := trodAll_cons r0
  obtain ⟨v2, vs2, d2, ds2, p2, q2, rfl, rfl, rfl, h2, r2⟩ := trodAll_cons r1
  obtain ⟨v3, vs3, d3, ds3, p3, q3, rfl, rfl, rfl, h3, r3⟩ := trodAll_cons r2
  obtain ⟨v4, vs4, d4, ds4, p4, q4, rfl, rfl, rfl, h4, r4⟩ := trodAll_cons r3
  obtain ⟨rfl, rfl, rfl⟩ := trodAll_nil r4
  obtain rfl : args = #[v0, v1, v2, v3, v4] := by cases args; simp_all
  obtain ⟨rfl, rfl⟩ := trodVars_none hV
  obtain ⟨a2, rfl, rfl, rfl, w2⟩ := open_int Try.underlying5 (hval 2 5 v2 rfl rfl) h2
  obtain ⟨a3, rfl, rfl, rfl, w3⟩ := open_int Try.underlying5 (hval 3 5 v3 rfl rfl) h3
  obtain ⟨a4, rfl, rfl, rfl, w4⟩ := open_int Try.underlying5 (hval 4 5 v4 rfl rfl) h4
  obtain ⟨cs, rfl, _⟩ := okWide_struct und25 (hval 0 25 v0 rfl rfl)
  obtain ⟨fuel, h0⟩ := h0
  obtain ⟨u1, u2, b, hcs, hL⟩ := open_book h0
  obtain rfl : cs = #[iv b.n, iv b.w, u1, u2] := by
    have h : cs.toList = [iv b.n, iv b.w, u1, u2] := hcs
    cases cs
    simp at h
    rw [h]
  obtain ⟨ba1, len1, cap1, rfl⟩ := okWide_slice Try.underlying23 (hval 1 23 v1 rfl rfl)
  obtain ⟨fuel1, h1⟩ := h1
  obtain ⟨x1, l1, e1, hl1⟩ := open_list h1
  obtain rfl : x1 = .slice ba1 len1 cap1 := by
    have h : [Value.slice ba1 len1 cap1] = [x1] := e1
    injection h with h _
    exact h.symm
  clear hA0 hval0 hval hA
  simp only [List.append_nil] at hW'
  simp only [List.append_nil] at hAk hlt
  refine (nulls_law u1 u2 b _ l1 a2 a3 a4 W hL hl1 (bounds_u8 w2) (bounds_u8 w3) (bounds_u8 w4)).mono fun e W' ⟨he, hg⟩ => ?_
  subst he
  refine ⟨_, rfl, post_below (pv := []) hW' hg (fun _ _ _ => (trodAll_cons_mk (shut_bool Try.underlying4 _) trodAll_mk0)) (fun sp hsp => ?_) (fun _ _ => rfl) (List.append_nil _).symm
    (ok_one (by kernel_rfl) rfl (okWide_bool_mk Try.underlying4 _))⟩
  rw [Try.params11]
  refine args_stay laid_out hg (fun t ht => ?_) hAk hlt sp (fun x hx => hsp x (by first | exact hx | simpa using hx))
  simp only [List.mem_cons, List.not_mem_nil, or_false] at ht
  rcases ht with rfl | rfl | rfl | rfl | rfl
  · exact ⟨by kernel_rfl, by have h : decide (25 < Try.prog.types.size) = true := (by kernel_rfl); exact of_decide_eq_true h⟩
  · exact ⟨by kernel_rfl, by have h : decide (23 < Try.prog.types.size) = true := (by kernel_rfl); exact of_decide_eq_true h⟩
  · exact ⟨by kernel_rfl, by have h : decide (5 < Try.prog.types.size) = true := (by kernel_rfl); exact of_decide_eq_true h⟩
  · exact ⟨by kernel_rfl, by have h : decide (5 < Try.prog.types.size) = true := (by kernel_rfl); exact of_decide_eq_true h⟩
  · exact ⟨by kernel_rfl, by have h : decide (5 < Try.prog.types.size) = true := (by kernel_rfl); exact of_decide_eq_true h⟩

theorem cipherNulls_over : Rows.cipherNullsRow.holds Try.pinned (OpenSpec.ofChange Rows.cipherNullsSpec) :=
  OpenClaim.holds_of_wide 11 Try.f11 rfl rfl rfl rfl rfl rfl rfl ⟨rfl, rfl, rfl, rfl, rfl⟩ rfl rfl rfl rfl rfl (by kernel_rfl) Try.func11 (by kernel_rfl)
    (of_decide_eq_true (by kernel_rfl)) (by unfold Func.isWrapper; first | (rw [if_pos (by decide +kernel)]; kernel_rfl) | (rw [if_neg (by decide +kernel)]; exact ⟨rfl, rfl⟩))
    (fun os started H enc _ => cipherNulls_lifted os started H enc)

theorem CipherNulls_holds : Rows.CipherNullsSaid := cipherNulls_over

end Go.Proofs.Ytoenhkhfpbglhaa
