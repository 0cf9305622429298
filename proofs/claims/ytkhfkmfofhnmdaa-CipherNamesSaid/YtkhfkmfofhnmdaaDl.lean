/-
  WALK of the law CipherBack over a thin book. Conditions: lists have at most 1000 elements.
-/
import Derived.Test.YtkhfkmfofhnmdaaDe
import Derived.Test.YtkhfkmfofhnmdaaDi
import Derived.Test.YtkhfkmfofhnmdaaDk
namespace Go.Proofs.Ytkhfkmfofhnmdaa
open Go.RowKit Go.Shelf
attribute [local go_sem] Oper.semAt_some

theorem readyB_iff {b : Bk} {l : List Int} : readyB b l = true ↔ readyB' b l := by
  simp only [readyB, readyB', Bool.and_eq_true, decide_eq_true_eq, and_assoc]
set_option maxRecDepth 100000 in
set_option maxHeartbeats 3000000 in
theorem Back_thin (v1 v2 : Value) (b : Bk) (A : Option Addr) (cap : Nat) (l : List Int) (x : Int) (w : World) (hL : BookAt w v1 v2 b) (hT : b.ks.length ≤ 8 ∧ b.ds.length ≤ 11) (hn : l.length ≤ 9223372036854775807) (hl : l.length ≤ 10 → IntsAt w (.slice A l.length cap) l) (hx0 : 0 ≤ x) (hx1 : x ≤ 255) :
    Calls Try.prog 9 #[.agg #[iv b.n, iv b.w, v1, v2], .slice A l.length cap, .int .u8 x] w fun e w' => e = .returned (.bool true) ∧ Below w.heap.size w w' := by
  obtain ⟨i0, hi0, hz0, hz1, hz2⟩ := info_parts int_info
  obtain ⟨_, A1, cap1, rfl, _, _⟩ := hL.ks.form
  obtain ⟨_, A2, cap2, rfl, _, _⟩ := hL.ds.form
  have HL := Lib.hid hL
  clear hL
  cases hr : readyB b l with
  | false =>
    have Hr := Lib.hid hr
    clear hr
    go_enter Try.func9, Try.ntmps9
    go_wp2_with fail
    refine (ready_thin _ _ b A l.length cap l _ (HL.out.kept (up_alloc up0 _)) hT hn rfl (fun h => (hl h).kept (up_alloc up0 _))).mono ?_
    rintro e w1 ⟨rfl, hb⟩
    rw [Hr.out]
    have HB := Lib.hid (up_later (up_alloc (up0 (w := w)) (.cells #[iv b.n, iv b.w, .slice A1 b.ks.length cap1, .slice A2 b.ds.length cap2] 25)) hb)
    have B1 := Lib.hid ((Box.new (w := w) (t := 25) (cs := #[iv b.n, iv b.w, .slice A1 b.ks.length cap1, .slice A2 b.ds.length cap2]) rfl).kept hb)
    clear hb
    have BB := B1.out
    have cB := fun i => BB.cell i
    have fB := fun i => BB.free i
    have lB := BB.lt
    have mB := Nat.lt_succ_of_lt lB
    go_wp2_with fail
    clear cB fB lB mB BB
    refine (awake_any _).mono ?_
    rintro e w2 ⟨rfl, hb⟩
    go_wp2_with fail
    go_ret
    exact ⟨rfl, up_later HB.out hb⟩
  | true =>
  have Hr := Lib.hid hr
  have hr' := readyB_iff.1 hr
  have hok := BookOK.of hr'.1
  have hd0 := hok.d1
  have hd8 := hok.d2
  have hl10 := hr'.2.1
  have HV := Lib.hid (hl hl10)
  have m0 : 0 ≤ x % (b.ds.length : Int) := Int.emod_nonneg _ (by omega)
  have m1 : x % (b.ds.length : Int) < b.ds.length := Int.emod_lt_of_pos _ (by omega)
  obtain ⟨day, hday⟩ : ∃ day : Nat, x % (b.ds.length : Int) = day := ⟨(x % (b.ds.length : Int)).toNat, by omega⟩
  have hdl : day < b.ds.length := by omega
  obtain ⟨D, hD⟩ : ∃ D, dispatchI b day l = D := ⟨_, rfl⟩
  obtain ⟨F, hF⟩ : ∃ F, l.filter (fun x => !nullB b.w x) = F := ⟨_, rfl⟩
  have HC := Lib.hid (code_ready hr' hdl)
  have HE := Lib.hid (decode_back hr' hdl)
  have hDl := dispatch_len b day l
  rw [hD] at HC HE hDl
  rw [hF] at HE
  have HF := Lib.hid hF
  have HDay := Lib.hid hday
  have HDl := Lib.hid hDl
  have n0 : ¬ (b.ds.length : Int) = 0 := by omega
  have z0 : ((b.ds.length : Int) == 0) = false := by rw [beq_eq_false_iff_ne]; omega
  have hD2 : D.length ≤ 12 := by omega
  have e9 : (D.length : Int) = (l.length : Int) + 2 := by omega
  clear hr hr' hok hday hdl hD hF hDl
  go_enter Try.func9, Try.ntmps9
  go_wp2_with fail
  refine (ready_thin _ _ b A l.length cap l _ (HL.out.kept (up_alloc up0 _)) hT hn rfl (fun h => (hl h).kept (up_alloc up0 _))).mono ?_
  rintro e w1 ⟨rfl, hb⟩
  rw [Hr.out]
  have HB := Lib.hid (up_later (up_alloc (up0 (w := w)) (.cells #[iv b.n, iv b.w, .slice A1 b.ks.length cap1, .slice A2 b.ds.length cap2] 25)) hb)
  have B1 := Lib.hid ((Box.new (w := w) (t := 25) (cs := #[iv b.n, iv b.w, .slice A1 b.ks.length cap1, .slice A2 b.ds.length cap2]) rfl).kept hb)
  clear hb
  have BB := B1.out
  have cB := fun i => BB.cell i
  have fB := fun i => BB.free i
  have lB := BB.lt
  have mB := Nat.lt_succ_of_lt lB
  go_wp2_with fail
  clear cB fB lB mB BB
  refine (Book_any _ _ b _ (HL.out.kept HB.out)).mono ?_
  rintro e w2 ⟨a1, a2, rfl, hq, hb⟩
  have HQ := Lib.hid hq
  clear hq
  have HB := Lib.hid (up_later HB.out hb)
  have B1 := Lib.hid (B1.out.kept hb)
  clear hb
  unfold bookV
  have BB := B1.out
  have cB := fun i => BB.cell i
  have fB := fun i => BB.free i
  have lB := BB.lt
  have mB := Nat.lt_succ_of_lt lB
  go_wp2_with fail
  clear cB fB lB mB BB
  refine (list_any _ l _ (HV.out.kept HB.out)).mono ?_
  rintro e w3 ⟨lv, rfl, hq, hb⟩
  have HP := Lib.hid hq
  clear hq
  have HB := Lib.hid (up_later HB.out hb)
  have B1 := Lib.hid (B1.out.kept hb)
  have HQ := Lib.hid (HQ.out.kept hb)
  clear hb
  have BB := B1.out
  have cB := fun i => BB.cell i
  have fB := fun i => BB.free i
  have lB := BB.lt
  have mB := Nat.lt_succ_of_lt lB
  go_wp2_with fail
  clear cB fB lB mB BB
  refine (Code_any _ _ _ b (x % b.ds.length) l _ HQ.out HP.out).mono ?_
  rintro e w4 ⟨dv, rfl, hq, hb⟩
  rw [HDay.out, HC.out] at hq ⊢
  have hq' := ints_of_own hq rfl (show D.length ≤ 1000 by omega)
  obtain ⟨_, Ad, cd, rfl, _, _⟩ := hq'.form
  have HX := Lib.hid hq'
  clear hq hq' HQ HP
  have HB := Lib.hid (up_later HB.out hb)
  have B1 := Lib.hid (B1.out.kept hb)
  clear hb
  have BB := B1.out
  have cB := fun i => BB.cell i
  have fB := fun i => BB.free i
  have lB := BB.lt
  have mB := Nat.lt_succ_of_lt lB
  go_wp2_with fail
  clear cB fB lB mB BB
  refine (Book_any _ _ b _ (HL.out.kept HB.out)).mono ?_
  rintro e w2 ⟨a1, a2, rfl, hq, hb⟩
  have HQ := Lib.hid hq
  clear hq
  have HB := Lib.hid (up_later HB.out hb)
  have B1 := Lib.hid (B1.out.kept hb)
  have HX := Lib.hid (HX.out.kept hb)
  clear hb
  unfold bookV
  have BB := B1.out
  have cB := fun i => BB.cell i
  have fB := fun i => BB.free i
  have lB := BB.lt
  have mB := Nat.lt_succ_of_lt lB
  go_wp2_with fail
  clear cB fB lB mB BB
  refine (list_any _ D _ HX.out).mono ?_
  rintro e w3 ⟨lv, rfl, hq, hb⟩
  have HP := Lib.hid hq
  clear hq
  have HB := Lib.hid (up_later HB.out hb)
  have B1 := Lib.hid (B1.out.kept hb)
  have HQ := Lib.hid (HQ.out.kept hb)
  have HX := Lib.hid (HX.out.kept hb)
  clear hb
  have BB := B1.out
  have cB := fun i => BB.cell i
  have fB := fun i => BB.free i
  have lB := BB.lt
  have mB := Nat.lt_succ_of_lt lB
  go_wp2_with fail
  clear cB fB lB mB BB
  refine (Decode_any _ _ _ b day D _ HQ.out HP.out).mono ?_
  rintro e w4 ⟨pv, wv, rfl, hp, hwv, hb⟩
  rw [HE.out] at hp hwv ⊢
  have HPV := Lib.hid hp
  have HWV := Lib.hid hwv
  clear hp hwv HQ HP
  have HB := Lib.hid (up_later HB.out hb)
  have B1 := Lib.hid (B1.out.kept hb)
  have HX := Lib.hid (HX.out.kept hb)
  clear hb
  have BB := B1.out
  have cB := fun i => BB.cell i
  have fB := fun i => BB.free i
  have lB := BB.lt
  have mB := Nat.lt_succ_of_lt lB
  go_wp2_with fail
  clear cB fB lB mB BB
  refine (Book_any _ _ b _ (HL.out.kept HB.out)).mono ?_
  rintro e w2 ⟨a1, a2, rfl, hq, hb⟩
  have HQ := Lib.hid hq
  clear hq
  have HB := Lib.hid (up_later HB.out hb)
  have B1 := Lib.hid (B1.out.kept hb)
  have HX := Lib.hid (HX.out.kept hb)
  have HPV := Lib.hid (HPV.out.kept hb)
  have HWV := Lib.hid (HWV.out.kept hb)
  clear hb
  unfold bookV
  have BB := B1.out
  have cB := fun i => BB.cell i
  have fB := fun i => BB.free i
  have lB := BB.lt
  have mB := Nat.lt_succ_of_lt lB
  go_wp2_with fail
  clear cB fB lB mB BB
  refine (list_any _ l _ HPV.out).mono ?_
  rintro e w3 ⟨lv, rfl, hq, hb⟩
  have HP := Lib.hid hq
  clear hq
  have HB := Lib.hid (up_later HB.out hb)
  have B1 := Lib.hid (B1.out.kept hb)
  have HQ := Lib.hid (HQ.out.kept hb)
  have HX := Lib.hid (HX.out.kept hb)
  have HPV := Lib.hid (HPV.out.kept hb)
  have HWV := Lib.hid (HWV.out.kept hb)
  clear hb
  have BB := B1.out
  have cB := fun i => BB.cell i
  have fB := fun i => BB.free i
  have lB := BB.lt
  have mB := Nat.lt_succ_of_lt lB
  go_wp2_with fail
  clear cB fB lB mB BB
  refine (Code_any _ _ _ b day l _ HQ.out HP.out).mono ?_
  rintro e w4 ⟨cv, rfl, hq, hb⟩
  rw [HC.out] at hq ⊢
  have HCV := Lib.hid (ints_of_own hq rfl (show D.length ≤ 1000 by omega))
  clear hq HQ HP
  have HB := Lib.hid (up_later HB.out hb)
  have B1 := Lib.hid (B1.out.kept hb)
  have HX := Lib.hid (HX.out.kept hb)
  have HPV := Lib.hid (HPV.out.kept hb)
  have HWV := Lib.hid (HWV.out.kept hb)
  clear hb
  have BB := B1.out
  have cB := fun i => BB.cell i
  have fB := fun i => BB.free i
  have lB := BB.lt
  have mB := Nat.lt_succ_of_lt lB
  go_wp2_with fail
  clear cB fB lB mB BB
  clear e9
  refine (same_any _ _ l l _ HPV.out (HV.out.kept HB.out)).mono ?_
  rintro e w5 ⟨rfl, hb⟩
  rw [decide_eq_true (p := l = l) rfl]
  have HB := Lib.hid (up_later HB.out hb)
  have B1 := Lib.hid (B1.out.kept hb)
  have HX := Lib.hid (HX.out.kept hb)
  have HWV := Lib.hid (HWV.out.kept hb)
  have HCV := Lib.hid (HCV.out.kept hb)
  clear hb
  have BB := B1.out
  have cB := fun i => BB.cell i
  have fB := fun i => BB.free i
  have lB := BB.lt
  have mB := Nat.lt_succ_of_lt lB
  go_wp2_with fail
  clear cB fB lB mB BB
  refine (same_any _ _ D D _ HCV.out HX.out).mono ?_
  rintro e w6 ⟨rfl, hb⟩
  rw [decide_eq_true (p := D = D) rfl]
  clear HX HCV
  have HB := Lib.hid (up_later HB.out hb)
  have B1 := Lib.hid (B1.out.kept hb)
  have HWV := Lib.hid (HWV.out.kept hb)
  clear hb
  have BB := B1.out
  have cB := fun i => BB.cell i
  have fB := fun i => BB.free i
  have lB := BB.lt
  have mB := Nat.lt_succ_of_lt lB
  go_wp2_with fail
  clear cB fB lB mB BB
  obtain ⟨P, hP⟩ : ∃ P : Int → Bool, P = fun x => !nullB b.w x := ⟨_, rfl⟩
  have HPP := Lib.hid hP
  have HF := Lib.hid (show l.filter P = F by rw [hP]; exact HF.out)
  clear hP
  go_loopw [15, 16] (fun u i wr => ∃ k : Nat, k ≤ l.length ∧ i = .int .i64 k ∧ Hid (wr.ownsRow w6.heap.size 3 1 u ((l.take k).filter P).length (((l.take k).filter P).map iv)) ∧ Hid (Below w6.heap.size w6 wr)) (fun _ i _ => l.length - (intOf i).toNat)
  case atStart => exact ⟨0, by omega, rfl, World.ownsRow_nil _ _ _ _, up0⟩
  case round =>
    obtain ⟨k, hk, rfl, HO, H6⟩ := hrel
    have hszB := H6.out.size
    have B1 := Lib.hid (B1.out.kept H6.out)
    have HWV := Lib.hid (HWV.out.kept H6.out)
    have HB := Lib.hid (up_later HB.out H6.out)
    have hfl : ((l.take k).filter P).length ≤ l.length := Nat.le_trans (List.length_filter_le _ _) (by simp; omega)
    have k0 : (0 : Int) ≤ (k : Int) := by omega
    by_cases hlt : k < l.length
    · obtain ⟨y, hy⟩ : ∃ y, l[k]? = some y := ⟨_, List.getElem?_eq_getElem hlt⟩
      have HR := Lib.hid (HV.out.kept HB.out)
      obtain ⟨b1, o1, rfl, hb1, _⟩ := HR.out.at rfl hy
      have k1 : (k : Int) < (l.length : Int) := by omega
      have Hy := Lib.hid hy
      have N := B1.out
      clear hy
      by_cases hyw : y < b.w
      · have d1 : decide (y < b.w) = true := decide_eq_true hyw
        have Hf := Lib.hid (show P y = true by rw [HPP.out]; simp [nullB]; omega)
        go_wp2_with fail
        apply wp_region_by 7 [(Fact.eq _), (Fact.eq _), (Fact.eq _), (Fact.eq _), (Fact.eq _), (Fact.eq _), (Fact.eq _)]
        case hm => kernel_rfl
        case hB => kernel_rfl
        case hA => (intro vs; simp only [List.take_succ_cons, List.take_zero, putAll, if_true, Act.put, List.setIfInBounds_toArray, List.set_cons_zero, List.set_cons_succ]; exact rfl)
        case hstep =>
          intro vs
          refine And.intro (fun w hw hd => ?_) ?_
          · refine ite_yes rfl ?_
            simp only [Gives]
            go_simp
            exact ⟨Below.refl _ _, rfl, fun h => by cases h⟩
          refine And.intro (fun w hw hd => ?_) ?_
          · refine ite_yes rfl ?_
            simp only [Gives]
            go_simp
            exact ⟨Below.refl _ _, rfl, fun h => by cases h⟩
          refine And.intro (fun w hw hd => ?_) ?_
          · have d0 := hd 0 (by decide) rfl
            change vs 0 = _ at d0
            have d1 := hd 1 (by decide) rfl
            change vs 1 = _ at d1
            refine ite_yes rfl ?_
            simp only [Gives]
            go_simp
            exact ⟨Below.refl _ _, rfl, fun h => by cases h⟩
          refine And.intro (fun w hw hd => ?_) ?_
          · have d2 := hd 2 (by decide) rfl
            change vs 2 = _ at d2
            refine ite_yes rfl ?_
            have c_N := fun i => (N.kept hw).cell i
            have q0 : w.cell? ⟨b1, o1 + k, none⟩ = some (.int .i64 y) := by simpa using (HR.out.kept hw).cellAt Hy.out (j := 0) rfl
            simp only [Gives]
            go_simp
            exact ⟨Below.refl _ _, rfl, fun h => by cases h⟩
          refine And.intro (fun w hw hd => ?_) ?_
          · refine ite_yes rfl ?_
            simp only [Gives]
            go_simp
            exact ⟨Below.refl _ _, rfl, fun h => by cases h⟩
          refine And.intro (fun w hw hd => ?_) ?_
          · have d4 := hd 4 (by decide) rfl
            change vs 4 = _ at d4
            refine ite_yes rfl ?_
            have c_N := fun i => (N.kept hw).cell i
            have q0 : w.cell? ⟨b1, o1 + k, none⟩ = some (.int .i64 y) := by simpa using (HR.out.kept hw).cellAt Hy.out (j := 0) rfl
            simp only [Gives]
            go_simp
            exact ⟨Below.refl _ _, rfl, fun h => by cases h⟩
          refine And.intro (fun w hw hd => ?_) ?_
          · have d3 := hd 3 (by decide) rfl
            change vs 3 = _ at d3
            have d5 := hd 5 (by decide) rfl
            change vs 5 = _ at d5
            refine ite_yes rfl ?_
            simp only [Gives]
            go_simp
            exact ⟨Below.refl _ _, rfl, fun h => by cases h⟩
          exact trivial
        intro vs wt hw hd hne hlo
        have d0 := hd 0 (by decide)
        change vs 0 = _ at d0
        have d1 := hd 1 (by decide)
        change vs 1 = _ at d1
        have d2 := hd 2 (by decide)
        change vs 2 = _ at d2
        have d3 := hd 3 (by decide)
        change vs 3 = _ at d3
        have d4 := hd 4 (by decide)
        change vs 4 = _ at d4
        have d5 := hd 5 (by decide)
        change vs 5 = _ at d5
        have d6 := hd 6 (by decide)
        change vs 6 = _ at d6
        simp only [d0, d1, d2, d3, d4, d5, d6, List.drop_succ_cons, List.drop_nil]
        have N := N.kept hw
        have c_N := fun i => N.cell i
        have f_N := fun i => N.free i
        clear hd hne hlo d0 d1 d2 d3 d4 d5 d6
        have q0 : wt.cell? ⟨b1, o1 + k, none⟩ = some (.int .i64 y) := by simpa using (HR.out.kept hw).cellAt Hy.out (j := 0) rfl
        have HO := Lib.hid (own_below HO.out hw)
        obtain ⟨Au, pu, rfl⟩ := own_form' HO.out
        have hszw := hw.size
        go_wp2_with (at_builtin; refine wpList_append_own_at _ rfl (.tmp 99) (.tmp 104) 23 rfl w6.heap.size 3 i0 _ 1 8 Try.underlying23 hi0 hz0 hz1 hz2 rfl (by decide) _ _ _ rfl (HO.out.alloc _) ⟨wt.heap.size, 0, none⟩ 1 1 [iv y] rfl rfl (cell_one_new _ _ _) (by simp [Value.oneCell']) (by unfold maxLen; omega) (by omega) (by simp; omega) ?_; intro v' w3 hown' hgrow _ _)
        go_roundw
        case rel =>
          have hB3 : Below w6.heap.size w6 w3 := (up_alloc (up_later H6.out hw) (.cells #[iv y] 3)).grown hgrow (by simp; omega) fun g e => (HO.out.lt g e).1
          refine ⟨k + 1, by omega, by go_num, ?_, hB3⟩
          have ho := hown'
          rw [filter_take Hy.out, Hf.out]
          rw [if_pos rfl, List.length_append, List.map_append]
          exact ho
        case measure => simp [intOf]; omega
      · have d1 : decide (y < b.w) = false := decide_eq_false hyw
        have Hf := Lib.hid (show P y = false by rw [HPP.out]; simp [nullB]; omega)
        go_wp2_with fail
        apply wp_region_by 7 [(Fact.eq _), (Fact.eq _), (Fact.eq _), (Fact.eq _), (Fact.eq _), (Fact.eq _), (Fact.eq _)]
        case hm => kernel_rfl
        case hB => kernel_rfl
        case hA => (intro vs; simp only [List.take_succ_cons, List.take_zero, putAll, if_true, Act.put, List.setIfInBounds_toArray, List.set_cons_zero, List.set_cons_succ]; exact rfl)
        case hstep =>
          intro vs
          refine And.intro (fun w hw hd => ?_) ?_
          · refine ite_yes rfl ?_
            simp only [Gives]
            go_simp
            exact ⟨Below.refl _ _, rfl, fun h => by cases h⟩
          refine And.intro (fun w hw hd => ?_) ?_
          · refine ite_yes rfl ?_
            simp only [Gives]
            go_simp
            exact ⟨Below.refl _ _, rfl, fun h => by cases h⟩
          refine And.intro (fun w hw hd => ?_) ?_
          · have d0 := hd 0 (by decide) rfl
            change vs 0 = _ at d0
            have d1 := hd 1 (by decide) rfl
            change vs 1 = _ at d1
            refine ite_yes rfl ?_
            simp only [Gives]
            go_simp
            exact ⟨Below.refl _ _, rfl, fun h => by cases h⟩
          refine And.intro (fun w hw hd => ?_) ?_
          · have d2 := hd 2 (by decide) rfl
            change vs 2 = _ at d2
            refine ite_yes rfl ?_
            have c_N := fun i => (N.kept hw).cell i
            have q0 : w.cell? ⟨b1, o1 + k, none⟩ = some (.int .i64 y) := by simpa using (HR.out.kept hw).cellAt Hy.out (j := 0) rfl
            simp only [Gives]
            go_simp
            exact ⟨Below.refl _ _, rfl, fun h => by cases h⟩
          refine And.intro (fun w hw hd => ?_) ?_
          · refine ite_yes rfl ?_
            simp only [Gives]
            go_simp
            exact ⟨Below.refl _ _, rfl, fun h => by cases h⟩
          refine And.intro (fun w hw hd => ?_) ?_
          · have d4 := hd 4 (by decide) rfl
            change vs 4 = _ at d4
            refine ite_yes rfl ?_
            have c_N := fun i => (N.kept hw).cell i
            have q0 : w.cell? ⟨b1, o1 + k, none⟩ = some (.int .i64 y) := by simpa using (HR.out.kept hw).cellAt Hy.out (j := 0) rfl
            simp only [Gives]
            go_simp
            exact ⟨Below.refl _ _, rfl, fun h => by cases h⟩
          refine And.intro (fun w hw hd => ?_) ?_
          · have d3 := hd 3 (by decide) rfl
            change vs 3 = _ at d3
            have d5 := hd 5 (by decide) rfl
            change vs 5 = _ at d5
            refine ite_yes rfl ?_
            simp only [Gives]
            go_simp
            exact ⟨Below.refl _ _, rfl, fun h => by cases h⟩
          exact trivial
        intro vs wt hw hd hne hlo
        have d0 := hd 0 (by decide)
        change vs 0 = _ at d0
        have d1 := hd 1 (by decide)
        change vs 1 = _ at d1
        have d2 := hd 2 (by decide)
        change vs 2 = _ at d2
        have d3 := hd 3 (by decide)
        change vs 3 = _ at d3
        have d4 := hd 4 (by decide)
        change vs 4 = _ at d4
        have d5 := hd 5 (by decide)
        change vs 5 = _ at d5
        have d6 := hd 6 (by decide)
        change vs 6 = _ at d6
        simp only [d0, d1, d2, d3, d4, d5, d6, List.drop_succ_cons, List.drop_nil]
        have N := N.kept hw
        have c_N := fun i => N.cell i
        have f_N := fun i => N.free i
        clear hd hne hlo d0 d1 d2 d3 d4 d5 d6
        go_wp2_with fail
        go_roundw
        case rel =>
          refine ⟨k + 1, by omega, by go_num, ?_, up_later H6.out hw⟩
          have ho := own_below HO.out hw
          rw [filter_take Hy.out, Hf.out, if_neg (by simp), List.append_nil]
          exact ho
        case measure => simp [intOf]; omega
    · have hk' : k = l.length := by omega
      subst hk'
      have ho := HO.out
      rw [List.take_length, HF.out] at ho
      have HW := Lib.hid (ints_of_own ho rfl (by rw [← HF.out]; exact Nat.le_trans (List.length_filter_le _ _) (by omega)))
      clear ho HO hfl
      go_wp2_with fail
      refine (same_any _ _ F F _ HWV.out HW.out).mono ?_
      rintro e w7 ⟨rfl, hb⟩
      rw [decide_eq_true (p := F = F) rfl]
      have HB := Lib.hid (up_later HB.out hb)
      clear hb
      go_wp2_with fail
      refine (awake_any _).mono ?_
      rintro e w8 ⟨rfl, hb⟩
      go_wp2_with fail
      go_ret
      exact ⟨rfl, up_later HB.out hb⟩
end Go.Proofs.Ytkhfkmfofhnmdaa
