/-
  CipherLost holds where what it reads is of bulk at most 1048576: with one more loss, or a smaller number, the best plan has no fewer changes, or there is none; no day becomes later. (The law appends to a list ahead of looking at how long it is.)
-/
import Derived.Test.YtkhfkmfofhnmdaaEa
import Derived.Test.YtkhfkmfofhnmdaaEb
import Derived.Test.YtkhfkmfofhnmdaaDe
import Derived.Test.YtkhfkmfofhnmdaaDj
import Derived.Test.YtkhfkmfofhnmdaaDr
import Derived.BigQuiet
import Derived.JoinedCond
import Derived.Deep.CutBlock
namespace Go.Proofs.Ytkhfkmfofhnmdaa
open Go.RowKit Go.Shelf
attribute [local go_sem] Oper.semAt_some

section
variable {P : Program}
theorem run_append_any (w : World) (n0 : Nat) (t ty e : TypeId) (i : TypeInfo) (z : Value) (size bytes : Nat) (ht : P.underlying t = some (.slice e)) (hi : P.info? e = some i) (hz : i.zero = some z)
    (hsize : i.size = size) (hby : i.bytes = bytes) (hzs : z.cells.size = size) (hsz : 0 < size) (g : Nat) (hg : Box w g e #[]) (hn0 : n0 ≤ g)
    {α : Type} (cells : α → List Value) (l : List α) (u : Value) (hR : RowsAny w u size cells l) (hbig : l.length ≤ 2000000) (hc : ∀ x, (cells x).length = size) (hbytes : l.length * bytes ≤ 140737488355328) :
    ∃ A m p w', (Builtin.append_ #[t, t] ty #[.slice (some ⟨g, 0, none⟩) 0 0, u]).run P w = .ok (.slice A m p) w' ∧ w'.ownsRow n0 e size (.slice A m p) l.length (l.flatMap cells) ∧ Below w.heap.size w w' := by
  subst hsize
  subst hby
  obtain ⟨A, cap, rfl, _, _, hcell⟩ := hR
  have hlt := hg.lt
  by_cases hne : l = []
  · subst hne
    refine ⟨some ⟨g, 0, none⟩, 0, 0, w, ?_, ⟨by simp, .inr ⟨g, 0, #[], rfl, hn0, hg, by simp, by unfold maxLen; omega, by simp, by simp⟩⟩, Below.refl _ _⟩
    simp [Builtin.append_, run_underlying ht, sizeOf, typeInfo, hi, Builtin.lenOf, Builtin.firstCells]
    cases A <;> simp [loadCells, loadCellsFrom, storeCells]
  · have hpos : 0 < l.length := List.length_pos_iff.2 hne
    obtain ⟨b, off, rfl, _, hcl⟩ := hcell hne
    have hl := flat_len hc l
    have hnews : ∀ j v, (l.flatMap cells)[j]? = some v → w.cell? ((⟨b, off, none⟩ : Addr).add j) = some v := fun j y hy => by
      obtain ⟨x, hx, hu⟩ := flat_get hc hsz l j y hy
      have := hcl _ x hx _ y hu
      have e1 : (⟨b, off, none⟩ : Addr).add j = ⟨b, off + j, none⟩ := by
        unfold Addr.add
        by_cases h : j = 0 <;> simp [h]
      have e2 : off + j / i.size * i.size + j % i.size = off + j := by
        have := Nat.div_add_mod j i.size
        rw [Nat.mul_comm] at this
        omega
      rw [e1, ← e2]
      exact this
    have hr := run_append_grow (P := P) w t ty e i z ht hi hz ⟨g, 0, none⟩ 0 0 [] (by simp) (fun j v h => by simp at h) ⟨b, off, none⟩ l.length cap (l.flatMap cells) hl hnews (by omega) (by simp; omega) (by rw [Nat.zero_add]; exact growslice_fits hpos hbytes)
    have hge := grownCap_ge w (0 + l.length) 0 e
    have hcm := grownCap_le_maxLen w (0 + l.length) 0 e (by unfold maxLen; omega)
    rw [Nat.zero_add] at hr hge hcm
    refine ⟨_, _, _, _, hr, ⟨hl, .inr ⟨w.heap.size, _, _, rfl, by omega, heap_alloc_new w.drew _, hge, hcm, ?_, ?_⟩⟩, (Below.refl _ _).drew.alloc (Nat.le_refl _) _⟩
    · simp only [Array.size_append, List.size_toArray, size_zeroCells, hzs, hl, List.length_nil, Nat.zero_add, ← Nat.add_mul]
      congr 1
      omega
    · simp only [Array.toList_append, List.nil_append]
      rw [← hl]
      exact List.take_left
end
theorem RowsAny.of_own {α : Type} {w : World} {base e sz n : Nat} {v : Value} {cells : α → List Value} {l : List α} (hsz : ∀ x, (cells x).length = sz) (h : w.ownsRow base e sz v n (l.flatMap cells)) (hn : n = l.length) : RowsAny w v sz cells l := by
  subst hn
  rcases h.2 with ⟨rfl, h0⟩ | ⟨g, cap, cur, rfl, _, hg, hnc, hcm, hsz2, htk⟩
  · have : l = [] := List.eq_nil_of_length_eq_zero h0
    subst this
    exact ⟨none, 0, rfl, by simp, by omega, fun h => absurd rfl h⟩
  · refine ⟨_, cap, rfl, hnc, by unfold maxLen at hcm; omega, fun _ => ⟨g, 0, rfl, (Array.getElem?_eq_some_iff.1 hg).1, fun i x hx j u hu => ?_⟩⟩
    have hf := flat_at hsz l i x hx j u hu
    have hi := (List.getElem?_eq_some_iff.1 hx).1
    have hj : j < sz := by rw [← hsz x]; exact (List.getElem?_eq_some_iff.1 hu).1
    have hlt : i * sz + j < l.length * sz := by
      have h2 : (i + 1) * sz ≤ l.length * sz := Nat.mul_le_mul_right _ hi
      rw [Nat.succ_mul] at h2
      omega
    rw [← htk, List.getElem?_take, if_pos hlt] at hf
    rw [cell_of_row w g (0 + i * sz + j) cur e (0, 0) hg, Nat.zero_add]
    simpa using hf
theorem rloss_info : (Try.prog.info? 93).map (fun i => (i.zero, i.size, i.bytes)) = some (some (.agg #[iv 0, iv 0]), 2, 16) := by kernel_rfl
theorem und47 : Try.prog.underlying 47 = some (.slice 93) := by kernel_rfl
set_option maxRecDepth 100000 in
set_option maxHeartbeats 5000000 in
theorem lost_law (v1 v2 : Value) (b : Bk) (v : Value) (ls : List Ls) (mr : Ls) (x y : Int) (w0 : World) (hL : BookAny w0 v1 v2 b) (hl : RowsAny w0 v 2 Ls.cells ls) (hbig : ls.length ≤ 1048576) (hx : 0 ≤ x ∧ x ≤ 255) (hy : 0 ≤ y ∧ y ≤ 255) :
    Calls Try.prog 15 #[.agg #[iv b.n, iv b.w, v1, v2], v, .agg #[iv mr.k, iv mr.d], .int .u8 x, .int .u8 y] w0 fun e w' => e = .returned (.bool true) ∧ Below w0.heap.size w0 w' := by
  obtain ⟨i1, hi1, hz10, hz11, hz12⟩ := info_parts rloss_info
  obtain ⟨A1, cap1, rfl, g1, g2⟩ := hL.ks.form
  obtain ⟨A2, cap2, rfl, g3, g4⟩ := hL.ds.form
  obtain ⟨A3, cap3, rfl, g5, g6⟩ := hl.form
  obtain ⟨hx0, hx1⟩ := hx
  obtain ⟨hy0, hy1⟩ := hy
  have HA := Lib.hid hL
  have HVA := Lib.hid hl
  clear hL hl
  obtain ⟨X, hX⟩ : ∃ X, ls ++ [mr] = X := ⟨_, rfl⟩
  have HX := Lib.hid hX
  have HXl := Lib.hid (show X.length = ls.length + 1 by rw [← hX]; simp)
  have HXf := Lib.hid (show X.flatMap Ls.cells = ls.flatMap Ls.cells ++ [iv mr.k, iv mr.d] by rw [← hX, List.flatMap_append]; simp [Ls.cells])
  clear hX
  go_enter Try.func15, Try.ntmps15
  go_wp2_with fail
  have HB0 := Lib.hid (up_alloc (up_alloc (up0 (w := w0)) (.cells #[iv b.n, iv b.w, .slice A1 b.ks.length cap1, .slice A2 b.ds.length cap2] 25)) (.cells #[iv mr.k, iv mr.d] 93))
  have B1 := Lib.hid ((Box.new (w := w0) (t := 25) (cs := #[iv b.n, iv b.w, .slice A1 b.ks.length cap1, .slice A2 b.ds.length cap2]) rfl).alloc (.cells #[iv mr.k, iv mr.d] 93))
  have M := Box.new (w := w0.alloc (.cells #[iv b.n, iv b.w, .slice A1 b.ks.length cap1, .slice A2 b.ds.length cap2] 25)) (g := w0.heap.size + 1) (t := 93) (cs := #[iv mr.k, iv mr.d]) (by simp)
  apply wp_region_by 5 [(Fact.slF w0.heap.size 0 93 #[]), (Fact.eq _), (Fact.own w0.heap.size 93 2 ls.length (ls.flatMap Ls.cells)), (Fact.eq _), (Fact.sl 1 93 #[iv mr.k, iv mr.d])]
  case hm => kernel_rfl
  case hB => kernel_rfl
  case hA => (intro vs; simp only [List.take_succ_cons, List.take_zero, putAll, if_true, Act.put, List.setIfInBounds_toArray, List.set_cons_zero, List.set_cons_succ]; exact rfl)
  case hstep =>
    intro vs
    refine And.intro (fun w hw hd => ?_) ?_
    · refine ite_yes rfl ?_
      simp only [Gives]
      have hz8 := hw.size
      have hz9 := HB0.out.size
      go_simp
      exact ⟨(Below.refl _ _).alloc (Nat.le_refl _) _, ⟨_, rfl, Box.new rfl, by simp at hz8; omega⟩, fun h => by cases h⟩
    refine And.intro (fun w hw hd => ?_) ?_
    · refine ite_yes rfl ?_
      simp only [Gives]
      go_simp
      exact ⟨Below.refl _ _, rfl, fun h => by cases h⟩
    refine And.intro (fun w hw hd => ?_) ?_
    · have d0 := hd 0 (by decide) rfl
      obtain ⟨m0, d0, M0, L0⟩ := d0
      have d1 := hd 1 (by decide) rfl
      change vs 1 = _ at d1
      refine ite_yes rfl ?_
      simp only [Gives]
      obtain ⟨A9, m9, p9, w9, hr9, ho9, hb9⟩ := run_append_any (P := Try.prog) w w0.heap.size 47 47 93 i1 (.agg #[iv 0, iv 0]) 2 16 und47 hi1 hz10 hz11 hz12 rfl (by decide) m0 M0 L0 Ls.cells ls _ (HVA.out.kept (up_later HB0.out hw)) (by omega) (fun _ => rfl) (by omega)
      refine gives_append (.tmp 28) (.tmp 29) 47 rfl _ _ _ ?_ ?_ hr9 ⟨hb9, ⟨_, _, _, rfl, ho9⟩, fun h => by cases h⟩
      all_goals (go_simp)
    refine And.intro (fun w hw hd => ?_) ?_
    · refine ite_yes rfl ?_
      have c_M := fun i => (M.kept hw).cell i
      simp only [Gives]
      go_simp
      exact ⟨Below.refl _ _, rfl, fun h => by cases h⟩
    refine And.intro (fun w hw hd => ?_) ?_
    · have d3 := hd 3 (by decide) rfl
      change vs 3 = _ at d3
      refine ite_yes rfl ?_
      simp only [Gives]
      go_simp
      exact ⟨(Below.refl _ _).alloc (Nat.le_refl _) _, ⟨_, rfl, Box.new rfl⟩, fun h => by cases h⟩
    exact trivial
  intro vs wt hw hd hne hlo
  have d0 := hd 0 (by decide)
  obtain ⟨m0, d0, M0, L0⟩ := d0
  have d1 := hd 1 (by decide)
  change vs 1 = _ at d1
  have d2 := hd 2 (by decide)
  obtain ⟨A2', m2, p2, d2, O2⟩ := d2
  have d3 := hd 3 (by decide)
  change vs 3 = _ at d3
  have d4 := hd 4 (by decide)
  obtain ⟨m4, d4, M4⟩ := d4
  simp only [d1, d3, List.drop_succ_cons, List.drop_zero]
  have M := M.kept hw
  have c_M := fun i => M.cell i
  have f_M := fun i => M.free i
  clear hd hne hlo d1 d3
  simp only [Nat.zero_add, Nat.reduceAdd, d2, d4]
  have hszw := hw.size
  have hsz0 := HB0.out.size
  rw [d2] at O2
  obtain ⟨A5, p5, e5⟩ := own_form' O2
  injection e5 with _ e5m _
  subst e5m
  have HO := Lib.hid O2
  have HB := Lib.hid (up_later HB0.out hw)
  have B1 := Lib.hid (B1.out.kept hw)
  clear d0 d2 d4 O2 M0 L0 c_M f_M M hw
  go_upto_region 2 with (at_builtin; refine wpList_append_own_at _ rfl (.tmp 30) (.tmp 32) 47 rfl w0.heap.size 93 i1 (.agg #[iv 0, iv 0]) 2 16 und47 hi1 hz10 hz11 hz12 rfl (by decide) _ _ _ rfl HO.out ⟨m4, 0, none⟩ 1 1 [iv mr.k, iv mr.d] rfl rfl (box_newsM M4) (by simp [Value.oneCell']) (by unfold maxLen; omega) (by omega) (by omega) ?_; intro v' w1 hown' hgrow hnil _)
  clear hnil
  have B1 := Lib.hid (B1.out.grown hgrow (box_not_own B1.out (by decide) HO.out))
  have HB := Lib.hid (Below.grown HB.out hgrow HB.out.size fun g e => (HO.out.lt g e).1)
  obtain ⟨A6, p6, rfl⟩ := own_form' hown'
  have HXV := Lib.hid (show RowsAny w1 (.slice A6 (ls.length + 1) p6) 2 Ls.cells X from RowsAny.of_own (base := w0.heap.size) (e := 93) (fun _ => rfl) (by rw [HXf.out]; exact hown') HXl.out.symm)
  clear hown' hgrow HO M4
  obtain ⟨r1, hr1⟩ : ∃ r1, lossedT b ls = r1 := ⟨_, rfl⟩
  obtain ⟨r2, hr2⟩ : ∃ r2, lossedT b X = r2 := ⟨_, rfl⟩
  have Hr1 := Lib.hid hr1
  have Hr2 := Lib.hid hr2
  clear hr1 hr2
  cases r1 with
  | false =>
    have BB := B1.out
    have cB := fun i => BB.cell i
    have fB := fun i => BB.free i
    have lB := BB.lt
    have mB := Nat.lt_succ_of_lt lB
    go_wp2_with fail
    clear cB fB lB mB BB
    refine (lossed_law _ _ b _ ls _ (HA.out.kept HB.out) (HVA.out.kept HB.out)).mono ?_
    rintro e w2 ⟨rfl, hb⟩
    rw [Hr1.out]
    have HXV := Lib.hid (HXV.out.kept hb)
    have HB := Lib.hid (up_later HB.out hb)
    have B1 := Lib.hid (B1.out.kept hb)
    clear hb
    have BB := B1.out
    have cB := fun i => BB.cell i
    have fB := fun i => BB.free i
    have lB := BB.lt
    have mB := Nat.lt_succ_of_lt lB
    go_wp2_with fail
    clear cB fB lB mB BB
    refine (awake_any _).mono ?_
    rintro e w9 ⟨rfl, hb⟩
    go_wp2_with fail
    go_ret
    exact ⟨rfl, up_later HB.out hb⟩
  | true =>
  cases r2 with
  | false =>
    have BB := B1.out
    have cB := fun i => BB.cell i
    have fB := fun i => BB.free i
    have lB := BB.lt
    have mB := Nat.lt_succ_of_lt lB
    go_wp2_with fail
    clear cB fB lB mB BB
    refine (lossed_law _ _ b _ ls _ (HA.out.kept HB.out) (HVA.out.kept HB.out)).mono ?_
    rintro e w2 ⟨rfl, hb⟩
    rw [Hr1.out]
    have HXV := Lib.hid (HXV.out.kept hb)
    have HB := Lib.hid (up_later HB.out hb)
    have B1 := Lib.hid (B1.out.kept hb)
    clear hb
    have BB := B1.out
    have cB := fun i => BB.cell i
    have fB := fun i => BB.free i
    have lB := BB.lt
    have mB := Nat.lt_succ_of_lt lB
    go_wp2_with fail
    clear cB fB lB mB BB
    refine (lossed_law _ _ b _ X _ (HA.out.kept HB.out) HXV.out).mono ?_
    rintro e w3 ⟨rfl, hb⟩
    rw [Hr2.out]
    have HXV := Lib.hid (HXV.out.kept hb)
    have HB := Lib.hid (up_later HB.out hb)
    have B1 := Lib.hid (B1.out.kept hb)
    clear hb
    have BB := B1.out
    have cB := fun i => BB.cell i
    have fB := fun i => BB.free i
    have lB := BB.lt
    have mB := Nat.lt_succ_of_lt lB
    go_wp2_with fail
    clear cB fB lB mB BB
    refine (awake_any _).mono ?_
    rintro e w9 ⟨rfl, hb⟩
    go_wp2_with fail
    go_ret
    exact ⟨rfl, up_later HB.out hb⟩
  | true =>
  obtain ⟨h8, h9, hE1⟩ := lossedT_iff.1 Hr1.out
  obtain ⟨_, h9x, hE2⟩ := lossedT_iff.1 Hr2.out
  have HL := Lib.hid (HA.out.at h8.1 h8.2)
  have HV := Lib.hid (HVA.out.rows (by omega))
  have hok := deskE_book hE1
  have hk5 := hok.k2
  have hk1 := hok.k1
  have hd8 := hok.d2
  have hd1 := hok.d1
  obtain ⟨mo, hmo⟩ : ∃ mo, x % 9 = mo := ⟨_, rfl⟩
  obtain ⟨le, hle⟩ : ∃ le, y % 3 = le := ⟨_, rfl⟩
  obtain ⟨fe, hfe⟩ : ∃ fe, max 0 (mo - le) = fe := ⟨_, rfl⟩
  have HMo := Lib.hid hmo
  have HLe := Lib.hid hle
  have HFe := Lib.hid hfe
  have hmo1 : 0 ≤ mo ∧ mo < 9 := by omega
  have hle1 : 0 ≤ le ∧ le < 3 := by omega
  have hfe1 : 0 ≤ fe ∧ fe ≤ mo := by omega
  have hWle : IntKind.i64.wrap (mo - le) = mo - le := wrapK_in _ 1000 (by omega) (by omega)
  have hWx : IntKind.i64.wrap x = x := wrapK_in _ 1000 (by omega) (by omega)
  have hWy : IntKind.i64.wrap y = y := wrapK_in _ 1000 (by omega) (by omega)
  have hTx : x.tmod 9 = mo := by rw [Int.tmod_eq_emod_of_nonneg hx0]; exact hmo
  have hTy : y.tmod 3 = le := by rw [Int.tmod_eq_emod_of_nonneg hy0]; exact hle
  clear hmo hle hfe
  have BB := B1.out
  have cB := fun i => BB.cell i
  have fB := fun i => BB.free i
  have lB := BB.lt
  have mB := Nat.lt_succ_of_lt lB
  go_wp2_with fail
  clear cB fB lB mB BB
  refine (lossed_law _ _ b _ ls _ (HA.out.kept HB.out) (HVA.out.kept HB.out)).mono ?_
  rintro e w2 ⟨rfl, hb⟩
  rw [Hr1.out]
  have HXV := Lib.hid (HXV.out.kept hb)
  have HB := Lib.hid (up_later HB.out hb)
  have B1 := Lib.hid (B1.out.kept hb)
  clear hb
  have BB := B1.out
  have cB := fun i => BB.cell i
  have fB := fun i => BB.free i
  have lB := BB.lt
  have mB := Nat.lt_succ_of_lt lB
  go_wp2_with fail
  clear cB fB lB mB BB
  refine (lossed_law _ _ b _ X _ (HA.out.kept HB.out) HXV.out).mono ?_
  rintro e w3 ⟨rfl, hb⟩
  rw [Hr2.out]
  have HXV := Lib.hid (HXV.out.kept hb)
  have HB := Lib.hid (up_later HB.out hb)
  have B1 := Lib.hid (B1.out.kept hb)
  clear hb
  go_upto_region 4 with (fail)
  refine wp_region_lit ?_
  apply wpList_by 4 [(Fact.eq _), (Fact.eq _), (Fact.eq _), (Fact.eq _)]
  case hB => kernel_rfl
  case hA => (intro vs; simp only [List.take_succ_cons, List.take_zero, putAll, if_true, Act.put, List.setIfInBounds_toArray, List.set_cons_zero, List.set_cons_succ]; exact rfl)
  case hstep =>
    intro vs
    refine And.intro (fun w hw hd => ?_) ?_
    · refine ite_yes rfl ?_
      simp only [Gives]
      go_simp
      exact ⟨Below.refl _ _, rfl, fun h => by cases h⟩
    refine And.intro (fun w hw hd => ?_) ?_
    · have d0 := hd 0 (by decide) rfl
      change vs 0 = _ at d0
      refine ite_yes rfl ?_
      simp only [Gives]
      go_simp
      exact ⟨Below.refl _ _, rfl, fun h => by cases h⟩
    refine And.intro (fun w hw hd => ?_) ?_
    · have d1 := hd 1 (by decide) rfl
      change vs 1 = _ at d1
      refine ite_yes rfl ?_
      simp only [Gives]
      go_simp
      exact ⟨Below.refl _ _, rfl, fun h => by cases h⟩
    refine And.intro (fun w hw hd => ?_) ?_
    · have d2 := hd 2 (by decide) rfl
      change vs 2 = _ at d2
      refine ite_yes rfl ?_
      simp only [Gives]
      go_simp
      exact ⟨Below.refl _ _, rfl, fun h => by cases h⟩
    exact trivial
  intro vs wt hw hd hne hlo
  have d0 := hd 0 (by decide)
  change vs 0 = _ at d0
  have d1 := hd 1 (by decide)
  change vs 1 = _ at d1
  have d2 := hd 2 (by decide)
  change vs 2 = _ at d2
  have d3 := hd 3 (by decide)
  change vs 3 = _ at d3
  simp only [d0, d1, d2, d3, List.drop_succ_cons, List.drop_nil]
  clear hd hne hlo d0 d1 d2 d3
  have HB := Lib.hid (up_later HB.out hw)
  have B1 := Lib.hid (B1.out.kept hw)
  have HXV := Lib.hid (HXV.out.kept hw)
  clear hw
  go_upto_region 5 with (fail)
  refine wp_region_lit ?_
  apply wpList_by 7 [(Fact.eq _), (Fact.eq _), (Fact.eq _), (Fact.eq _), (Fact.eq _), (Fact.eq (iv fe)), (Fact.eq _)]
  case hB => kernel_rfl
  case hA => (intro vs; simp only [List.take_succ_cons, List.take_zero, putAll, if_true, Act.put, List.setIfInBounds_toArray, List.set_cons_zero, List.set_cons_succ]; exact rfl)
  case hstep =>
    intro vs
    refine And.intro (fun w hw hd => ?_) ?_
    · refine ite_yes rfl ?_
      simp only [Gives]
      go_simp
      exact ⟨Below.refl _ _, rfl, fun h => by cases h⟩
    refine And.intro (fun w hw hd => ?_) ?_
    · refine ite_yes rfl ?_
      simp only [Gives]
      go_simp
      exact ⟨Below.refl _ _, rfl, fun h => by cases h⟩
    refine And.intro (fun w hw hd => ?_) ?_
    · have d1 := hd 1 (by decide) rfl
      change vs 1 = _ at d1
      refine ite_yes rfl ?_
      simp only [Gives]
      go_simp
      exact ⟨Below.refl _ _, rfl, fun h => by cases h⟩
    refine And.intro (fun w hw hd => ?_) ?_
    · have d2 := hd 2 (by decide) rfl
      change vs 2 = _ at d2
      refine ite_yes rfl ?_
      simp only [Gives]
      go_simp
      exact ⟨Below.refl _ _, rfl, fun h => by cases h⟩
    refine And.intro (fun w hw hd => ?_) ?_
    · have d0 := hd 0 (by decide) rfl
      change vs 0 = _ at d0
      have d3 := hd 3 (by decide) rfl
      change vs 3 = _ at d3
      refine ite_yes rfl ?_
      simp only [Gives]
      go_simp
      exact ⟨Below.refl _ _, rfl, fun h => by cases h⟩
    refine And.intro (fun w hw hd => ?_) ?_
    · have d4 := hd 4 (by decide) rfl
      change vs 4 = _ at d4
      refine ite_yes rfl ?_
      simp only [Gives]
      go_simp
      split <;> exact ⟨Below.refl _ _, congrArg (Value.int .i64) (by have := HFe.out; omega), fun h => by cases h⟩
    refine And.intro (fun w hw hd => ?_) ?_
    · have d5 := hd 5 (by decide) rfl
      change vs 5 = _ at d5
      refine ite_yes rfl ?_
      simp only [Gives]
      go_simp
      exact ⟨Below.refl _ _, rfl, fun h => by cases h⟩
    exact trivial
  intro vs wt hw hd hne hlo
  have d0 := hd 0 (by decide)
  change vs 0 = _ at d0
  have d1 := hd 1 (by decide)
  change vs 1 = _ at d1
  have d2 := hd 2 (by decide)
  change vs 2 = _ at d2
  have d3 := hd 3 (by decide)
  change vs 3 = _ at d3
  have d4 := hd 4 (by decide)
  change vs 4 = _ at d4
  have d5 := hd 5 (by decide)
  change vs 5 = _ at d5
  have d6 := hd 6 (by decide)
  change vs 6 = _ at d6
  simp only [d0, d1, d2, d3, d4, d6, List.drop_succ_cons, List.drop_nil]
  clear hd hne hlo d0 d1 d2 d3 d4 d6
  have HB := Lib.hid (up_later HB.out hw)
  have B1 := Lib.hid (B1.out.kept hw)
  have HXV := Lib.hid (HXV.out.kept hw)
  simp only [Nat.zero_add, Nat.reduceAdd, d5]
  clear hw d5 hWx hWy hTx hTy hWle
  have HXR := Lib.hid (HXV.out.rows (by omega))
  obtain ⟨P1, n1, e1, P2, n2, e2, P3, n3, e3, hp1, hp2, hp3, hcase⟩ : ∃ P1 n1 e1 P2 n2 e2 P3 n3 e3, planE b ls mo = (P1, n1, e1) ∧ planE b X mo = (P2, n2, e2) ∧ planE b ls fe = (P3, n3, e3) ∧
      ((e1 = 10 ∧ e2 = 10 ∧ e3 = 10) ∨ (e1 = 0 ∧ (e2 = 10 ∨ (e2 = 0 ∧ n1 ≤ n2)) ∧ (e3 = 10 ∨ (e3 = 0 ∧ n1 ≤ n3)))) := by
    have k1 : (bestI b ls mo).2 ≤ (bestI b X mo).2 := bestI_few hk5 hmo1.1 (Int.le_refl _) fun k d h => by rw [← HX.out] at h; exact free_more _ _ _ _ _ h
    have k2 : (bestI b ls mo).2 ≤ (bestI b ls fe).2 := bestI_few hk5 hfe1.1 hfe1.2 fun _ _ h => h
    have l1 := bestI_lim b ls mo
    have l2 := bestI_lim b X mo
    have l3 := bestI_lim b ls fe
    have bm : belowB mo 9 = true := belowB_iff.2 hmo1
    have bf : belowB fe 9 = true := belowB_iff.2 (by omega)
    have pl : ∀ (l : List Ls) (m : Int), deskE b l = 0 → belowB m 9 = true → planE b l m = if (bestI b l m).2 = 8 then ([], 0, 10) else ((bestI b l m).1, (bestI b l m).2, 0) := fun l m h1 h2 => by
      unfold planE
      rw [if_neg (by simpa using h1), if_neg (by rw [h2]; simp)]
    have q1 := pl ls mo hE1 bm
    have q2 := pl X mo hE2 bm
    have q3 := pl ls fe hE1 bf
    by_cases c1 : (bestI b ls mo).2 = 8
    · rw [if_pos c1] at q1
      rw [if_pos (by omega)] at q2
      rw [if_pos (by omega)] at q3
      exact ⟨_, _, _, _, _, _, _, _, _, q1, q2, q3, .inl ⟨rfl, rfl, rfl⟩⟩
    · rw [if_neg c1] at q1
      by_cases c2 : (bestI b X mo).2 = 8
      · rw [if_pos c2] at q2
        by_cases c3 : (bestI b ls fe).2 = 8
        · rw [if_pos c3] at q3
          exact ⟨_, _, _, _, _, _, _, _, _, q1, q2, q3, .inr ⟨rfl, .inl rfl, .inl rfl⟩⟩
        · rw [if_neg c3] at q3
          exact ⟨_, _, _, _, _, _, _, _, _, q1, q2, q3, .inr ⟨rfl, .inl rfl, .inr ⟨rfl, k2⟩⟩⟩
      · rw [if_neg c2] at q2
        by_cases c3 : (bestI b ls fe).2 = 8
        · rw [if_pos c3] at q3
          exact ⟨_, _, _, _, _, _, _, _, _, q1, q2, q3, .inr ⟨rfl, .inr ⟨rfl, k1⟩, .inl rfl⟩⟩
        · rw [if_neg c3] at q3
          exact ⟨_, _, _, _, _, _, _, _, _, q1, q2, q3, .inr ⟨rfl, .inr ⟨rfl, k1⟩, .inr ⟨rfl, k2⟩⟩⟩
  have Hp1 := Lib.hid hp1
  have Hp2 := Lib.hid hp2
  have Hp3 := Lib.hid hp3
  have Hcase := Lib.hid hcase
  obtain ⟨U, hU⟩ : ∃ U, exposedL b ls = U := ⟨_, rfl⟩
  obtain ⟨V, hV⟩ : ∃ V, exposedL b X = V := ⟨_, rfl⟩
  have hUl : U.length = b.ds.length := by rw [← hU]; unfold exposedL; rw [mapI_len]
  have hVl : V.length = b.ds.length := by rw [← hV]; unfold exposedL; rw [mapI_len]
  have HUe := Lib.hid (show exposedE b ls = (U, 0) by unfold exposedE; rw [if_neg (by simpa using hE1), hU])
  have HVe := Lib.hid (show exposedE b X = (V, 0) by unfold exposedE; rw [if_neg (by simpa using hE2), hV])
  have Hmore := Lib.hid (show ∀ (d : Nat) (a c : Int), U[d]? = some a → V[d]? = some c → ¬ ((0 ≤ a ∧ (c < 0 ∨ a < c)) ∨ (0 ≤ c ∧ c < d)) from fun d a c ha hc => by
    have hd : d < b.ds.length := by rw [← hUl]; exact (List.getElem?_eq_some_iff.1 ha).1
    obtain ⟨key, hkey⟩ : ∃ key, b.ds[d]? = some key := ⟨_, List.getElem?_eq_getElem hd⟩
    rw [← hU, exposed_at hkey] at ha
    rw [← hV, exposed_at hkey, ← HX.out] at hc
    rw [← Option.some.inj ha, ← Option.some.inj hc]
    exact exp_more hd)
  have HUl := Lib.hid hUl
  have HVl := Lib.hid hVl
  have hUl1 : U.length ≤ 1000 := by omega
  have hVl1 : V.length ≤ 1000 := by omega
  clear hp1 hp2 hp3 hcase hU hV hUl hVl hE1 hE2 hok h8
  go_upto_region 6 with (fail)
  have BB := B1.out
  have cB := fun i => BB.cell i
  have fB := fun i => BB.free i
  have lB := BB.lt
  have mB := Nat.lt_succ_of_lt lB
  go_wp2_with fail
  clear cB fB lB mB BB
  refine (Book_any _ _ b _ (HL.out.kept HB.out)).mono ?_
  rintro e w4 ⟨a1, a2, rfl, hq, hb⟩
  have HQ := Lib.hid hq
  clear hq
  have HB := Lib.hid (up_later HB.out hb)
  have B1 := Lib.hid (B1.out.kept hb)
  have HXR := Lib.hid (HXR.out.kept hb)
  clear hb
  unfold bookV
  have BB := B1.out
  have cB := fun i => BB.cell i
  have fB := fun i => BB.free i
  have lB := BB.lt
  have mB := Nat.lt_succ_of_lt lB
  go_wp2_with fail
  clear cB fB lB mB BB
  refine (Losses_any _ ls _ (HV.out.kept HB.out)).mono ?_
  rintro e w5 ⟨lv, rfl, hq, hb⟩
  have HP := Lib.hid hq
  have HQ := Lib.hid (HQ.out.kept hb)
  clear hq
  have HB := Lib.hid (up_later HB.out hb)
  have B1 := Lib.hid (B1.out.kept hb)
  have HXR := Lib.hid (HXR.out.kept hb)
  clear hb
  have BB := B1.out
  have cB := fun i => BB.cell i
  have fB := fun i => BB.free i
  have lB := BB.lt
  have mB := Nat.lt_succ_of_lt lB
  go_wp2_with fail
  clear cB fB lB mB BB
  refine (Plan_any _ _ _ b ls mo _ HQ.out HP.out).mono ?_
  rintro e w6 ⟨pv, rfl, hq, hb⟩
  rw [Hp1.out] at hq ⊢
  obtain ⟨_, Ap, cp, rfl, _, _⟩ := hq.form
  clear hq HQ HP
  have HB := Lib.hid (up_later HB.out hb)
  have B1 := Lib.hid (B1.out.kept hb)
  have HXR := Lib.hid (HXR.out.kept hb)
  clear hb
  have BB := B1.out
  have cB := fun i => BB.cell i
  have fB := fun i => BB.free i
  have lB := BB.lt
  have mB := Nat.lt_succ_of_lt lB
  go_wp2_with fail
  clear cB fB lB mB BB
  refine (Book_any _ _ b _ (HL.out.kept HB.out)).mono ?_
  rintro e w4 ⟨a1, a2, rfl, hq, hb⟩
  have HQ := Lib.hid hq
  clear hq
  have HB := Lib.hid (up_later HB.out hb)
  have B1 := Lib.hid (B1.out.kept hb)
  have HXR := Lib.hid (HXR.out.kept hb)
  clear hb
  unfold bookV
  have BB := B1.out
  have cB := fun i => BB.cell i
  have fB := fun i => BB.free i
  have lB := BB.lt
  have mB := Nat.lt_succ_of_lt lB
  go_wp2_with fail
  clear cB fB lB mB BB
  refine (Losses_any _ X _ (HXR.out)).mono ?_
  rintro e w5 ⟨lv, rfl, hq, hb⟩
  have HP := Lib.hid hq
  have HQ := Lib.hid (HQ.out.kept hb)
  clear hq
  have HB := Lib.hid (up_later HB.out hb)
  have B1 := Lib.hid (B1.out.kept hb)
  have HXR := Lib.hid (HXR.out.kept hb)
  clear hb
  have BB := B1.out
  have cB := fun i => BB.cell i
  have fB := fun i => BB.free i
  have lB := BB.lt
  have mB := Nat.lt_succ_of_lt lB
  go_wp2_with fail
  clear cB fB lB mB BB
  refine (Plan_any _ _ _ b X mo _ HQ.out HP.out).mono ?_
  rintro e w6 ⟨pv, rfl, hq, hb⟩
  rw [Hp2.out] at hq ⊢
  obtain ⟨_, Ap, cp, rfl, _, _⟩ := hq.form
  clear hq HQ HP
  have HB := Lib.hid (up_later HB.out hb)
  have B1 := Lib.hid (B1.out.kept hb)
  have HXR := Lib.hid (HXR.out.kept hb)
  clear hb
  have BB := B1.out
  have cB := fun i => BB.cell i
  have fB := fun i => BB.free i
  have lB := BB.lt
  have mB := Nat.lt_succ_of_lt lB
  go_wp2_with fail
  clear cB fB lB mB BB
  refine (Book_any _ _ b _ (HL.out.kept HB.out)).mono ?_
  rintro e w4 ⟨a1, a2, rfl, hq, hb⟩
  have HQ := Lib.hid hq
  clear hq
  have HB := Lib.hid (up_later HB.out hb)
  have B1 := Lib.hid (B1.out.kept hb)
  have HXR := Lib.hid (HXR.out.kept hb)
  clear hb
  unfold bookV
  have BB := B1.out
  have cB := fun i => BB.cell i
  have fB := fun i => BB.free i
  have lB := BB.lt
  have mB := Nat.lt_succ_of_lt lB
  go_wp2_with fail
  clear cB fB lB mB BB
  refine (Losses_any _ ls _ (HV.out.kept HB.out)).mono ?_
  rintro e w5 ⟨lv, rfl, hq, hb⟩
  have HP := Lib.hid hq
  have HQ := Lib.hid (HQ.out.kept hb)
  clear hq
  have HB := Lib.hid (up_later HB.out hb)
  have B1 := Lib.hid (B1.out.kept hb)
  have HXR := Lib.hid (HXR.out.kept hb)
  clear hb
  have BB := B1.out
  have cB := fun i => BB.cell i
  have fB := fun i => BB.free i
  have lB := BB.lt
  have mB := Nat.lt_succ_of_lt lB
  go_wp2_with fail
  clear cB fB lB mB BB
  refine (Plan_any _ _ _ b ls fe _ HQ.out HP.out).mono ?_
  rintro e w6 ⟨pv, rfl, hq, hb⟩
  rw [Hp3.out] at hq ⊢
  obtain ⟨_, Ap, cp, rfl, _, _⟩ := hq.form
  clear hq HQ HP
  have HB := Lib.hid (up_later HB.out hb)
  have B1 := Lib.hid (B1.out.kept hb)
  have HXR := Lib.hid (HXR.out.kept hb)
  clear hb
  have BB := B1.out
  have cB := fun i => BB.cell i
  have fB := fun i => BB.free i
  have lB := BB.lt
  have mB := Nat.lt_succ_of_lt lB
  go_wp2_with fail
  clear cB fB lB mB BB
  refine (Book_any _ _ b _ (HL.out.kept HB.out)).mono ?_
  rintro e w4 ⟨a1, a2, rfl, hq, hb⟩
  have HQ := Lib.hid hq
  clear hq
  have HB := Lib.hid (up_later HB.out hb)
  have B1 := Lib.hid (B1.out.kept hb)
  have HXR := Lib.hid (HXR.out.kept hb)
  clear hb
  unfold bookV
  have BB := B1.out
  have cB := fun i => BB.cell i
  have fB := fun i => BB.free i
  have lB := BB.lt
  have mB := Nat.lt_succ_of_lt lB
  go_wp2_with fail
  clear cB fB lB mB BB
  refine (Losses_any _ ls _ (HV.out.kept HB.out)).mono ?_
  rintro e w5 ⟨lv, rfl, hq, hb⟩
  have HP := Lib.hid hq
  have HQ := Lib.hid (HQ.out.kept hb)
  clear hq
  have HB := Lib.hid (up_later HB.out hb)
  have B1 := Lib.hid (B1.out.kept hb)
  have HXR := Lib.hid (HXR.out.kept hb)
  clear hb
  have BB := B1.out
  have cB := fun i => BB.cell i
  have fB := fun i => BB.free i
  have lB := BB.lt
  have mB := Nat.lt_succ_of_lt lB
  go_wp2_with fail
  clear cB fB lB mB BB
  refine (Exposed_any _ _ _ b ls _ HQ.out HP.out).mono ?_
  rintro e w6 ⟨uv, rfl, hq, hb⟩
  rw [HUe.out] at hq ⊢
  rw [HUl.out] at hq
  obtain ⟨Au, pu, rfl⟩ := own_form' hq
  have HUV := Lib.hid (ints_of_own hq HUl.out.symm hUl1)
  clear hq HQ HP
  have HB := Lib.hid (up_later HB.out hb)
  have B1 := Lib.hid (B1.out.kept hb)
  have HXR := Lib.hid (HXR.out.kept hb)
  clear hb
  have BB := B1.out
  have cB := fun i => BB.cell i
  have fB := fun i => BB.free i
  have lB := BB.lt
  have mB := Nat.lt_succ_of_lt lB
  go_wp2_with fail
  clear cB fB lB mB BB
  refine (Book_any _ _ b _ (HL.out.kept HB.out)).mono ?_
  rintro e w7 ⟨a1, a2, rfl, hq, hb⟩
  have HQ := Lib.hid hq
  clear hq
  have HB := Lib.hid (up_later HB.out hb)
  have B1 := Lib.hid (B1.out.kept hb)
  have HXR := Lib.hid (HXR.out.kept hb)
  have HUV := Lib.hid (HUV.out.kept hb)
  clear hb
  unfold bookV
  have BB := B1.out
  have cB := fun i => BB.cell i
  have fB := fun i => BB.free i
  have lB := BB.lt
  have mB := Nat.lt_succ_of_lt lB
  go_wp2_with fail
  clear cB fB lB mB BB
  refine (Losses_any _ X _ HXR.out).mono ?_
  rintro e w8 ⟨lv, rfl, hq, hb⟩
  have HP := Lib.hid hq
  have HQ := Lib.hid (HQ.out.kept hb)
  clear hq
  have HB := Lib.hid (up_later HB.out hb)
  have B1 := Lib.hid (B1.out.kept hb)
  have HUV := Lib.hid (HUV.out.kept hb)
  clear hb
  have BB := B1.out
  have cB := fun i => BB.cell i
  have fB := fun i => BB.free i
  have lB := BB.lt
  have mB := Nat.lt_succ_of_lt lB
  go_wp2_with fail
  clear cB fB lB mB BB
  refine (Exposed_any _ _ _ b X _ HQ.out HP.out).mono ?_
  rintro e w9 ⟨vv, rfl, hq, hb⟩
  rw [HVe.out] at hq ⊢
  rw [HVl.out] at hq
  obtain ⟨Av, pv2, rfl⟩ := own_form' hq
  have HVV := Lib.hid (ints_of_own hq HVl.out.symm hVl1)
  clear hq HQ HP HXR
  have HB := Lib.hid (up_later HB.out hb)
  have B1 := Lib.hid (B1.out.kept hb)
  have HUV := Lib.hid (HUV.out.kept hb)
  clear hb
  have BB := B1.out
  have cB := fun i => BB.cell i
  have fB := fun i => BB.free i
  have lB := BB.lt
  have mB := Nat.lt_succ_of_lt lB
  go_wp2_with fail
  clear cB fB lB mB BB
  obtain ⟨W9, hW9⟩ : ∃ W9, w9 = W9 := ⟨_, rfl⟩
  subst hW9
  go_loopw [27] (fun i wr => ∃ k : Nat, k ≤ b.ds.length ∧ i = .int .i64 k ∧ Hid (Below w9.heap.size w9 wr)) (fun i _ => b.ds.length - (intOf i).toNat)
  case atStart => exact ⟨0, by omega, rfl, up0⟩
  case round =>
    obtain ⟨k, hk, rfl, H9⟩ := hrel
    have k0 : (0 : Int) ≤ (k : Int) := by omega
    by_cases hlt : k < b.ds.length
    · have k1 : (k : Int) < (b.ds.length : Int) := by omega
      obtain ⟨a, ha⟩ : ∃ a, U[k]? = some a := ⟨_, List.getElem?_eq_getElem (by rw [HUl.out]; exact hlt)⟩
      obtain ⟨c, hc⟩ : ∃ c, V[k]? = some c := ⟨_, List.getElem?_eq_getElem (by rw [HVl.out]; exact hlt)⟩
      have hno := Hmore.out k a c ha hc
      have HR := Lib.hid (HUV.out.kept H9.out)
      have HS := Lib.hid (HVV.out.kept H9.out)
      obtain ⟨b1, o1, rfl, _, hc1⟩ := HR.out.at rfl ha
      obtain ⟨b2, o2, rfl, _, hc2⟩ := HS.out.at rfl hc
      have q0 : wr.cell? ⟨b1, o1 + k, none⟩ = some (.int .i64 a) := by simpa using hc1 0 _ rfl
      have q1 : wr.cell? ⟨b2, o2 + k, none⟩ = some (.int .i64 c) := by simpa using hc2 0 _ rfl
      clear ha hc hc1 hc2
      by_cases ha0 : 0 ≤ a
      · have t1 : decide (0 ≤ a) = true := decide_eq_true ha0
        have t2 : decide (c < 0) = false := decide_eq_false (by omega)
        have t3 : decide (a < c) = false := decide_eq_false (by omega)
        have t4 : decide (0 ≤ c) = true := decide_eq_true (by omega)
        have t5 : decide (c < (k : Int)) = false := decide_eq_false (by omega)
        clear hno
        go_wp2_with fail
        go_quiet (fail)
        go_wp2_with fail
        go_roundw
        case rel => exact ⟨k + 1, by omega, by go_num, H9.out.trans ⟨rfl, rfl, rfl, Nat.le_refl _, fun _ _ => rfl⟩⟩
        case measure => simp [intOf]; omega
      · have t1 : decide (0 ≤ a) = false := decide_eq_false ha0
        by_cases hc0 : 0 ≤ c
        · have t4 : decide (0 ≤ c) = true := decide_eq_true hc0
          have t5 : decide (c < (k : Int)) = false := decide_eq_false (by omega)
          clear hno
          go_wp2_with fail
          go_quiet (fail)
          go_wp2_with fail
          go_roundw
          case rel => exact ⟨k + 1, by omega, by go_num, H9.out.trans ⟨rfl, rfl, rfl, Nat.le_refl _, fun _ _ => rfl⟩⟩
          case measure => simp [intOf]; omega
        · have t4 : decide (0 ≤ c) = false := decide_eq_false hc0
          clear hno
          go_wp2_with fail
          go_quiet (fail)
          go_wp2_with fail
          go_roundw
          case rel => exact ⟨k + 1, by omega, by go_num, H9.out.trans ⟨rfl, rfl, rfl, Nat.le_refl _, fun _ _ => rfl⟩⟩
          case measure => simp [intOf]; omega
    · have k1 : ¬ (k : Int) < (b.ds.length : Int) := by omega
      have HB := Lib.hid (up_later HB.out H9.out)
      clear H9 B1
      rcases Hcase.out with ⟨rfl, rfl, rfl⟩ | ⟨rfl, (rfl | ⟨rfl, hn2⟩), (rfl | ⟨rfl, hn3⟩)⟩
      all_goals (clear Hcase; go_wp2_with fail; refine (awake_any _).mono ?_; rintro e w10 ⟨rfl, hb⟩; go_wp2_with fail; go_ret; exact ⟨rfl, up_later HB.out hb⟩)
end Go.Proofs.Ytkhfkmfofhnmdaa

namespace Go.Proofs.Ytkhfkmfofhnmdaa
open Go.ChangeShapes Go.WideShapes Go.ChangeAt Go.RowKit

theorem bulk_pos {H : Type} (d : DataW H) : 1 ≤ Rows.uptoBulk d := by
  cases d with
  | lit x => cases x <;> simp [Rows.uptoBulk]
  | _ => simp [Rows.uptoBulk]
theorem bulk_len {H : Type} (l : List (DataW H)) : l.length ≤ Rows.uptoBulkAll l := by
  induction l with
  | nil => simp [Rows.uptoBulkAll]
  | cons d r ih =>
    have := bulk_pos d
    simp [Rows.uptoBulkAll]
    omega

set_option maxRecDepth 100000 in
theorem cipherLost_lifted (os : Os) (started : os.Started) (H : Type) (enc : TypeId × Value → H) (F : Stop.Interp) :
    ReturnsInHanded {} Try.checked os 15 .any ((Rows.OpenSpec.upto Rows.cipherLostSpec).pre6 enc Try.prog Try.f15 Rows.cipherLostUptoRow.domain false) (((Rows.OpenSpec.upto Rows.cipherLostSpec).at F).post enc Try.prog Try.f15 false true false false) := by
  refine returnsInHanded_of_cond (C := Try.checked) (s := (Rows.OpenSpec.upto Rows.cipherLostSpec)) (k := Rows.uptoSmall) rfl own_knob started (by kernel_rfl) Try.func15
    (OpenSpec.witness (enc := enc) (C := Try.checked) (s := (Rows.OpenSpec.upto Rows.cipherLostSpec)) (k := Rows.uptoSmall) rfl false ⟨#[], #[.agg #[.int .i64 0, .int .i64 0, .slice Option.none 0 0, .slice Option.none 0 0], .slice Option.none 0 0, .agg #[.int .i64 0, .int .i64 0], .int .u8 0, .int .u8 0], []⟩ 8 (by kernel_rfl) (by kernel_rfl) (by kernel_rfl)
      (x := ([.agg [.lit (.int .i64 0), .lit (.int .i64 0), .nil, .nil], .nil, .agg [.lit (.int .i64 0), .lit (.int .i64 0)], .lit (.int .u8 0), .lit (.int .u8 0)], [], [])) (by kernel_rfl) rfl rfl) ?_
  intro W base args ds gs before hval0 hW _ hk _
  have hval : ∀ (j : Nat) t v, Try.f15.params[j]? = some t → args[j]? = some v → Value.okWide Try.prog W .any base t v := hval0
  have hW' := hW
  obtain ⟨p, q, hA0, hV, rfl, hfz, hnd⟩ := hW
  have hA : DataW.TrodAll enc Try.prog W 0 (fun _ => true) true Try.f15.params.toList args.toList ds p := hA0
  rw [Try.params15] at hA hval
  have hlt : ∀ x ∈ p, x.block < W.heap.size := fun x hx => hW'.lt x (List.mem_append_left _ hx)
  have hAk := hA
  obtain ⟨v0, vs0, d0, ds0, p0, q0, hargs, rfl, rfl, h0, r0⟩ := trodAll_cons hA
  obtain ⟨v1, vs1, d1, ds1, p1, q1, rfl, rfl, rfl, h1, r1⟩ := trodAll_cons r0
  obtain ⟨v2, vs2, d2, ds2, p2, q2, rfl, rfl, rfl, h2, r2⟩ := trodAll_cons r1
  obtain ⟨v3, vs3, d3, ds3, p3, q3, rfl, rfl, rfl, h3, r3⟩ := trodAll_cons r2
  obtain ⟨v4, vs4, d4, ds4, p4, q4, rfl, rfl, rfl, h4, r4⟩ := trodAll_cons r3
  obtain ⟨rfl, rfl, rfl⟩ := trodAll_nil r4
  obtain rfl : args = #[v0, v1, v2, v3, v4] := by cases args; simp_all
  obtain ⟨rfl, rfl⟩ := trodVars_none hV
  obtain ⟨a3, rfl, rfl, rfl, w3⟩ := open_int Try.underlying5 (hval 3 5 v3 rfl rfl) h3
  obtain ⟨a4, rfl, rfl, rfl, w4⟩ := open_int Try.underlying5 (hval 4 5 v4 rfl rfl) h4
  obtain ⟨cs, rfl, _⟩ := okWide_struct und25 (hval 0 25 v0 rfl rfl)
  obtain ⟨fuel, h0⟩ := h0
  obtain ⟨u1, u2, b, hcs, hL⟩ := open_book h0
  obtain rfl : cs = #[iv b.n, iv b.w, u1, u2] := by
    have h : cs.toList = [iv b.n, iv b.w, u1, u2] := hcs
    cases cs
    simp at h
    rw [h]
  obtain ⟨ba1, len1, cap1, rfl⟩ := okWide_slice (show Try.prog.underlying 47 = some (.slice 93) by kernel_rfl) (hval 1 47 v1 rfl rfl)
  obtain ⟨fuel1, h1⟩ := h1
  obtain ⟨x1, l1, e1, hl1⟩ := open_losses h1
  obtain rfl : x1 = .slice ba1 len1 cap1 := by
    have h : [Value.slice ba1 len1 cap1] = [x1] := e1
    injection h with h _
    exact h.symm
  obtain ⟨cs2, rfl, _⟩ := okWide_struct (show Try.prog.underlying 93 = some (.struct (Try.prog.fieldsOf 93)) by kernel_rfl) (hval 2 93 v2 rfl rfl)
  obtain ⟨fuel2, h2⟩ := h2
  obtain ⟨x2, hx2, _⟩ := open_loss h2
  obtain rfl : cs2 = #[iv x2.k, iv x2.d] := by
    have h : cs2.toList = [iv x2.k, iv x2.d] := hx2
    cases cs2
    simp at h
    rw [h]
  have hlen1 : l1.length ≤ 1048576 := by
    obtain ⟨A9, cap9, e9, _⟩ := hl1
    have e9 := e9
    injection e9 with _ e9 _
    rcases Deep.open_slice (show Try.prog.underlying 47 = some (.slice 93) by kernel_rfl) h1 with ⟨e8, _⟩ | ⟨a8, len8, cap8, m8, n8, D8, Pl8, e8, _, _, _, _, x8, _⟩
    · injection e8 with e8 _
      injection e8 with _ e8 _
      omega
    · injection e8 with e8 _
      injection e8 with _ e8 _
      injection x8 with x8 _
      subst x8
      have hk' := of_decide_eq_true hk
      have := bulk_len ((List.range len8).map D8)
      simp [Rows.uptoBulkAll, Rows.uptoBulk] at hk' this
      omega
  clear hA0 hval0 hval hA
  simp only [List.append_nil] at hW'
  simp only [List.append_nil] at hAk hlt
  refine (lost_law u1 u2 b _ l1 x2 a3 a4 W hL hl1 hlen1 (bounds_u8 w3) (bounds_u8 w4)).mono fun e W' ⟨he, hg⟩ => ?_
  subst he
  refine ⟨_, rfl, post_below (pv := []) hW' hg (fun _ _ _ => (trodAll_cons_mk (shut_bool Try.underlying4 _) trodAll_mk0)) (fun sp hsp => ?_) (fun _ _ => rfl) (List.append_nil _).symm
    (ok_one (by kernel_rfl) rfl (okWide_bool_mk Try.underlying4 _))⟩
  rw [Try.params15]
  refine args_stay laid_out hg (fun t ht => ?_) hAk hlt sp (fun x hx => hsp x (by first | exact hx | simpa using hx))
  simp only [List.mem_cons, List.not_mem_nil, or_false] at ht
  rcases ht with rfl | rfl | rfl | rfl | rfl
  · exact ⟨by kernel_rfl, by have h : decide (25 < Try.prog.types.size) = true := (by kernel_rfl); exact of_decide_eq_true h⟩
  · exact ⟨by kernel_rfl, by have h : decide (47 < Try.prog.types.size) = true := (by kernel_rfl); exact of_decide_eq_true h⟩
  · exact ⟨by kernel_rfl, by have h : decide (93 < Try.prog.types.size) = true := (by kernel_rfl); exact of_decide_eq_true h⟩
  · exact ⟨by kernel_rfl, by have h : decide (5 < Try.prog.types.size) = true := (by kernel_rfl); exact of_decide_eq_true h⟩
  · exact ⟨by kernel_rfl, by have h : decide (5 < Try.prog.types.size) = true := (by kernel_rfl); exact of_decide_eq_true h⟩

theorem cipherLost_over : Rows.cipherLostUptoRow.holds Try.pinned (Rows.OpenSpec.upto Rows.cipherLostSpec) :=
  OpenClaim.holds_of_cond 15 Try.f15 rfl rfl rfl rfl rfl rfl rfl ⟨rfl, rfl, rfl, rfl, rfl⟩ rfl rfl rfl rfl rfl (by kernel_rfl) Try.func15 (by kernel_rfl)
    (of_decide_eq_true (by kernel_rfl)) (by unfold Func.isWrapper; first | (rw [if_pos (by decide +kernel)]; kernel_rfl) | (rw [if_neg (by decide +kernel)]; exact ⟨rfl, rfl⟩))
    (fun os started H enc _ F => cipherLost_lifted os started H enc F)

theorem CipherLost_holds : Rows.CipherLostUptoSaid := cipherLost_over

end Go.Proofs.Ytkhfkmfofhnmdaa
