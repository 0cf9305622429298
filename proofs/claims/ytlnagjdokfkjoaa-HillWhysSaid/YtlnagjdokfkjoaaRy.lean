/-
  HillWhys holds: the error of any land, the reason, and the walls that block are as the reference has them, or the error is. No condition.
-/
import Derived.Test.YtlnagjdokfkjoaaRd
namespace Go.Proofs.Ytlnagjdokfkjoaa
open Go.RowKit

set_option maxRecDepth 100000 in
set_option maxHeartbeats 3000000 in
theorem whys_law (v1 v2 v3 v4 : Value) (L : Ld) (c : List (Value × List Cl)) (x y k z : Int) (w : World) (hL : LandAny w v1 v2 v3 v4 L c) :
    Calls Try.prog 3 #[.agg #[v1, v2, v3, v4], .int .i64 x, .int .i64 y, .int .i64 k, .int .i64 z] w fun e w' => e = .returned (.bool true) ∧ Below w.heap.size w w' := by
  have HA := Lib.hid hL
  obtain ⟨A1, cap1, rfl, _, _⟩ := hL.st.form
  obtain ⟨A2, cap2, rfl, _, _⟩ := hL.rg.form
  obtain ⟨A3, cap3, rfl, _, _⟩ := hL.cs.form
  obtain ⟨A4, cap4, rfl, _, _⟩ := hL.sn.form
  have Hcl := Lib.hid (show c.length = L.cs.length by rw [← hL.eq]; simp)
  clear hL
  cases hth : thinB L
  case false =>
    have Hth := Lib.hid hth
    clear hth
    go_enter Try.func3, Try.ntmps3
    go_wp2_with fail
    refine (Thin_any _ _ _ _ L c _ (HA.out.kept (up_alloc up0 _))).mono ?_
    rintro e y0 ⟨rfl, hb⟩
    rw [Hth.out]
    go_wp2_with fail
    refine (awake_any _).mono ?_
    rintro e y1 ⟨rfl, hb2⟩
    go_wp2_with fail
    go_ret
    exact ⟨rfl, up_later (up_later (up_alloc up0 _) hb) hb2⟩
  have HT0 := Lib.hid (HA.out.thin hth)
  have Hth := Lib.hid hth
  clear hth
  obtain ⟨o, ho⟩ : ∃ o, openI L k z [x, y] = o := ⟨_, rfl⟩
  have HO := Lib.hid ho
  by_cases h0 : o = 0
  · subst h0
    obtain ⟨i, j, k', h, rfl, rfl, rfl, rfl⟩ := nats_of ho
    obtain ⟨he, ⟨_, hk⟩, ⟨_, hh⟩, hst⟩ := open_ok ho
    have hok := land_ok he
    have hi := hst i (by simp)
    have hj := hst j (by simp)
    have Hok := Lib.hid hok
    have hi' : i < L.st.length := by omega
    have hj' : j < L.st.length := by omega
    have hk' : k' < L.cs.length := by omega
    have hh' : h < L.sn.length := by omega
    obtain ⟨r1, w1, hrw⟩ : ∃ r1 w1, whyI L i j k' h = (r1, w1) := ⟨_, _, rfl⟩
    have HW := Lib.hid (show whyE L i j k' h = (r1, w1, 0) by unfold whyE; rw [if_neg (by simp [ho]), hrw])
    have HV := Lib.hid (show wallsE L i j k' h = (ridgesI L i j, cloudsI L i j k' h, 0) by unfold wallsE; rw [if_neg (by simp [ho])])
    have HRW := Lib.hid hrw
    have rr : (r1 == r1) = true := by simp
    have ww : (w1 == w1) = true := by simp
    clear hrw ho he hst hok hi hj hk hh
    go_enter Try.func3, Try.ntmps3
    go_wp2_with fail
    have BX := Lib.hid (Box.new (w := w) (t := 27) (cs := #[.slice A1 L.st.length cap1, .slice A2 L.rg.length cap2, .slice A3 c.length cap3, .slice A4 L.sn.length cap4]) rfl)
    have HB := Lib.hid (up_alloc (up0 (w := w)) (.cells #[.slice A1 L.st.length cap1, .slice A2 L.rg.length cap2, .slice A3 c.length cap3, .slice A4 L.sn.length cap4] 27))
    have HT := Lib.hid (HT0.out.kept HB.out)
    refine (Thin_any _ _ _ _ L c _ (HA.out.kept HB.out)).mono ?_
    rintro e y0 ⟨rfl, hb⟩
    rw [Hth.out]
    have HB := Lib.hid (up_later HB.out hb)
    have HT := Lib.hid (HT.out.kept hb)
    have BX := Lib.hid (BX.out.kept hb)
    clear hb
    have BB := BX.out
    have cB := fun i => BB.cell i
    go_wp2_with fail
    clear cB BB
    refine (Land_any _ _ _ _ L c _ HT.out).mono ?_
    rintro e ya ⟨a1, a2, a3, a4, ca, rfl, hl, hb⟩
    have Hl := Lib.hid hl
    clear hl
    have HB := Lib.hid (up_later HB.out hb)
    have HT := Lib.hid (HT.out.kept hb)
    have BX := Lib.hid (BX.out.kept hb)
    clear hb
    go_wp2_with fail
    refine (CheckLand_any _ _ _ _ L _ ya Hl.out).mono ?_
    rintro e yb ⟨rfl, hb⟩
    clear Hl
    have HB := Lib.hid (up_later HB.out hb)
    have HT := Lib.hid (HT.out.kept hb)
    have BX := Lib.hid (BX.out.kept hb)
    clear hb
    have BB := BX.out
    have cB := fun i => BB.cell i
    go_wp2_with fail
    clear cB BB
    refine (Land_any _ _ _ _ L c _ HT.out).mono ?_
    rintro e ya ⟨a1, a2, a3, a4, ca, rfl, hl, hb⟩
    have Hl := Lib.hid hl
    clear hl
    have HB := Lib.hid (up_later HB.out hb)
    have HT := Lib.hid (HT.out.kept hb)
    have BX := Lib.hid (BX.out.kept hb)
    clear hb
    go_wp2_with fail
    have AA := Why_any _ _ _ _ L _ i j k' h ya Hl.out
    rw [HW.out] at AA
    refine AA.mono ?_
    rintro e yb ⟨rfl, hb⟩
    clear AA Hl
    have HB := Lib.hid (up_later HB.out hb)
    have HT := Lib.hid (HT.out.kept hb)
    have BX := Lib.hid (BX.out.kept hb)
    clear hb
    have BB := BX.out
    have cB := fun i => BB.cell i
    go_wp2_with fail
    clear cB BB
    refine (Land_any _ _ _ _ L c _ HT.out).mono ?_
    rintro e ya ⟨a1, a2, a3, a4, ca, rfl, hl, hb⟩
    have Hl := Lib.hid hl
    clear hl
    have HB := Lib.hid (up_later HB.out hb)
    have HT := Lib.hid (HT.out.kept hb)
    have BX := Lib.hid (BX.out.kept hb)
    clear hb
    go_wp2_with fail
    have AA := Walls_any _ _ _ _ L _ i j k' h ya Hl.out
    rw [HV.out] at AA
    refine AA.mono ?_
    rintro e yb ⟨p, q, rfl, hp, hq, hb⟩
    obtain ⟨_, Ap, pp, rfl, _, _⟩ := hp.form
    obtain ⟨_, Aq, pq, rfl, _, _⟩ := hq.form
    have HP := Lib.hid hp
    have HQ := Lib.hid hq
    clear AA Hl hp hq
    have HB := Lib.hid (up_later HB.out hb)
    have HT := Lib.hid (HT.out.kept hb)
    have BX := Lib.hid (BX.out.kept hb)
    clear hb
    have BB := BX.out
    have cB := fun i => BB.cell i
    go_wp2_with fail
    clear cB BB
    refine (Lfault_any _ _ _ _ L c _ HT.out).mono ?_
    rintro e yc ⟨rfl, hb⟩
    have HB := Lib.hid (up_later HB.out hb)
    have HT := Lib.hid (HT.out.kept hb)
    have BX := Lib.hid (BX.out.kept hb)
    have HP := Lib.hid (HP.out.kept hb)
    have HQ := Lib.hid (HQ.out.kept hb)
    clear hb
    have ee : (errI L != errI L) = false := by simp
    have BB := BX.out
    have cB := fun i => BB.cell i
    go_wp2_with fail
    clear cB BB
    clear ee
    refine (Lasked_any _ _ _ _ L c i j k' h _ HT.out).mono ?_
    rintro e yd ⟨rfl, hb⟩
    rw [HO.out]
    have HB := Lib.hid (up_later HB.out hb)
    have HT := Lib.hid (HT.out.kept hb)
    have BX := Lib.hid (BX.out.kept hb)
    have HP := Lib.hid (HP.out.kept hb)
    have HQ := Lib.hid (HQ.out.kept hb)
    clear hb
    have BB := BX.out
    have cB := fun i => BB.cell i
    go_wp2_with fail
    clear cB BB
    refine (RWhy_any _ _ _ _ L c i j k' h _ HT.out Hok.out hi' hj' hk' hh').mono ?_
    rintro e ye ⟨rfl, hb⟩
    rw [HRW.out]
    have HB := Lib.hid (up_later HB.out hb)
    have HT := Lib.hid (HT.out.kept hb)
    have BX := Lib.hid (BX.out.kept hb)
    have HP := Lib.hid (HP.out.kept hb)
    have HQ := Lib.hid (HQ.out.kept hb)
    clear hb
    have BB := BX.out
    have cB := fun i => BB.cell i
    go_wp2_with fail
    clear cB BB
    refine (RWalls_any _ _ _ _ L c i j k' h _ HT.out Hok.out hi' hj' hk').mono ?_
    rintro e yf ⟨p2, q2, rfl, hp2, hq2, hb⟩
    obtain ⟨_, Ap2, pp2, rfl, _, _⟩ := hp2.form
    obtain ⟨_, Aq2, pq2, rfl, _, _⟩ := hq2.form
    have HP2 := Lib.hid hp2
    have HQ2 := Lib.hid hq2
    clear hp2 hq2
    have HB := Lib.hid (up_later HB.out hb)
    have HT := Lib.hid (HT.out.kept hb)
    have BX := Lib.hid (BX.out.kept hb)
    have HP := Lib.hid (HP.out.kept hb)
    have HQ := Lib.hid (HQ.out.kept hb)
    clear hb
    have eP := Lib.hid (beq_self_eq_true (ridgesI L i j))
    have eQ := Lib.hid (beq_self_eq_true (cloudsI L i j k' h))
    go_wp2_with fail
    refine (ints_any _ _ _ _ _ HP.out HP2.out).mono ?_
    rintro e yg ⟨rfl, hb⟩
    rw [eP.out]
    have HB := Lib.hid (up_later HB.out hb)
    have HQ := Lib.hid (HQ.out.kept hb)
    have HQ2 := Lib.hid (HQ2.out.kept hb)
    clear hb
    go_wp2_with fail
    refine (ints_any _ _ _ _ _ HQ.out HQ2.out).mono ?_
    rintro e yh ⟨rfl, hb⟩
    rw [eQ.out]
    have HB := Lib.hid (up_later HB.out hb)
    clear hb
    go_wp2_with fail
    refine (awake_any _).mono ?_
    rintro e y9 ⟨rfl, hb⟩
    go_wp2_with fail
    go_ret
    exact ⟨by simp [go_sem], up_later HB.out hb⟩
  · have HW := Lib.hid (show whyE L x y k z = (0, 0, o) by unfold whyE; rw [if_pos (by rw [ho]; exact h0), ho])
    have HV := Lib.hid (show wallsE L x y k z = ([], [], o) by unfold wallsE; rw [if_pos (by rw [ho]; exact h0), ho])
    have hne : (o != 0) = true := by simpa using h0
    have oo : (o == o) = true := by simp
    clear ho h0
    go_enter Try.func3, Try.ntmps3
    go_wp2_with fail
    have BX := Lib.hid (Box.new (w := w) (t := 27) (cs := #[.slice A1 L.st.length cap1, .slice A2 L.rg.length cap2, .slice A3 c.length cap3, .slice A4 L.sn.length cap4]) rfl)
    have HB := Lib.hid (up_alloc (up0 (w := w)) (.cells #[.slice A1 L.st.length cap1, .slice A2 L.rg.length cap2, .slice A3 c.length cap3, .slice A4 L.sn.length cap4] 27))
    have HT := Lib.hid (HT0.out.kept HB.out)
    refine (Thin_any _ _ _ _ L c _ (HA.out.kept HB.out)).mono ?_
    rintro e y0 ⟨rfl, hb⟩
    rw [Hth.out]
    have HB := Lib.hid (up_later HB.out hb)
    have HT := Lib.hid (HT.out.kept hb)
    have BX := Lib.hid (BX.out.kept hb)
    clear hb
    have BB := BX.out
    have cB := fun i => BB.cell i
    go_wp2_with fail
    clear cB BB
    refine (Land_any _ _ _ _ L c _ HT.out).mono ?_
    rintro e ya ⟨a1, a2, a3, a4, ca, rfl, hl, hb⟩
    have Hl := Lib.hid hl
    clear hl
    have HB := Lib.hid (up_later HB.out hb)
    have HT := Lib.hid (HT.out.kept hb)
    have BX := Lib.hid (BX.out.kept hb)
    clear hb
    go_wp2_with fail
    refine (CheckLand_any _ _ _ _ L _ ya Hl.out).mono ?_
    rintro e yb ⟨rfl, hb⟩
    clear Hl
    have HB := Lib.hid (up_later HB.out hb)
    have HT := Lib.hid (HT.out.kept hb)
    have BX := Lib.hid (BX.out.kept hb)
    clear hb
    have BB := BX.out
    have cB := fun i => BB.cell i
    go_wp2_with fail
    clear cB BB
    refine (Land_any _ _ _ _ L c _ HT.out).mono ?_
    rintro e ya ⟨a1, a2, a3, a4, ca, rfl, hl, hb⟩
    have Hl := Lib.hid hl
    clear hl
    have HB := Lib.hid (up_later HB.out hb)
    have HT := Lib.hid (HT.out.kept hb)
    have BX := Lib.hid (BX.out.kept hb)
    clear hb
    go_wp2_with fail
    have AA := Why_any _ _ _ _ L _ x y k z ya Hl.out
    rw [HW.out] at AA
    refine AA.mono ?_
    rintro e yb ⟨rfl, hb⟩
    clear AA Hl
    have HB := Lib.hid (up_later HB.out hb)
    have HT := Lib.hid (HT.out.kept hb)
    have BX := Lib.hid (BX.out.kept hb)
    clear hb
    have BB := BX.out
    have cB := fun i => BB.cell i
    go_wp2_with fail
    clear cB BB
    refine (Land_any _ _ _ _ L c _ HT.out).mono ?_
    rintro e ya ⟨a1, a2, a3, a4, ca, rfl, hl, hb⟩
    have Hl := Lib.hid hl
    clear hl
    have HB := Lib.hid (up_later HB.out hb)
    have HT := Lib.hid (HT.out.kept hb)
    have BX := Lib.hid (BX.out.kept hb)
    clear hb
    go_wp2_with fail
    have AA := Walls_any _ _ _ _ L _ x y k z ya Hl.out
    rw [HV.out] at AA
    refine AA.mono ?_
    rintro e yb ⟨p, q, rfl, hp, hq, hb⟩
    obtain ⟨_, Ap, pp, rfl, _, _⟩ := hp.form
    obtain ⟨_, Aq, pq, rfl, _, _⟩ := hq.form
    have HP := Lib.hid hp
    have HQ := Lib.hid hq
    clear AA Hl hp hq
    have HB := Lib.hid (up_later HB.out hb)
    have HT := Lib.hid (HT.out.kept hb)
    have BX := Lib.hid (BX.out.kept hb)
    clear hb
    have BB := BX.out
    have cB := fun i => BB.cell i
    go_wp2_with fail
    clear cB BB
    refine (Lfault_any _ _ _ _ L c _ HT.out).mono ?_
    rintro e yc ⟨rfl, hb⟩
    have HB := Lib.hid (up_later HB.out hb)
    have HT := Lib.hid (HT.out.kept hb)
    have BX := Lib.hid (BX.out.kept hb)
    have HP := Lib.hid (HP.out.kept hb)
    have HQ := Lib.hid (HQ.out.kept hb)
    clear hb
    have ee : (errI L != errI L) = false := by simp
    have BB := BX.out
    have cB := fun i => BB.cell i
    go_wp2_with fail
    clear cB BB
    clear ee
    refine (Lasked_any _ _ _ _ L c x y k z _ HT.out).mono ?_
    rintro e yd ⟨rfl, hb⟩
    rw [HO.out]
    have HB := Lib.hid (up_later HB.out hb)
    have HT := Lib.hid (HT.out.kept hb)
    have BX := Lib.hid (BX.out.kept hb)
    have HP := Lib.hid (HP.out.kept hb)
    have HQ := Lib.hid (HQ.out.kept hb)
    clear hb
    have BB := BX.out
    have cB := fun i => BB.cell i
    go_wp2_with fail
    clear cB BB
    refine (awake_any _).mono ?_
    rintro e y9 ⟨rfl, hb⟩
    go_wp2_with fail
    go_ret
    exact ⟨by simp [go_sem], up_later HB.out hb⟩

end Go.Proofs.Ytlnagjdokfkjoaa

namespace Go.Proofs.Ytlnagjdokfkjoaa
open Go.ChangeShapes Go.WideShapes Go.ChangeAt Go.RowKit

theorem rec3 : Try.prog.readableRec 3 = true ∧ 3 < Try.prog.types.size := ⟨by kernel_rfl, by have h : decide (3 < Try.prog.types.size) = true := (by kernel_rfl); exact of_decide_eq_true h⟩
set_option maxRecDepth 100000 in
theorem hillWhys_lifted (os : Os) (started : os.Started) (H : Type) (enc : TypeId × Value → H) :
    ReturnsInHanded {} Try.checked os 3 .any (Rows.hillWhysSpec.pre6 enc Try.prog Try.f3 Rows.hillWhysRow.domain false) (Rows.hillWhysSpec.post enc Try.prog Try.f3 false true false false) := by
  refine returnsInHanded_of_change (C := Try.checked) own_knob started (by kernel_rfl) Try.func3
    (ChangeSpec.witness6 (enc := enc) (C := Try.checked) false ⟨#[], #[.agg #[.slice Option.none 0 0, .slice Option.none 0 0, .slice Option.none 0 0, .slice Option.none 0 0], .int .i64 0, .int .i64 0, .int .i64 0, .int .i64 0], []⟩ 8 (by kernel_rfl) (by kernel_rfl) (by kernel_rfl) (by kernel_rfl)) ?_
  intro W base args ds gs before hval0 hW hcnd _
  have hval : ∀ (j : Nat) t v, Try.f3.params[j]? = some t → args[j]? = some v → Value.okWide Try.prog W .any base t v := hval0
  have hW' := hW
  obtain ⟨p, q, hA0, hV, rfl, hfz, hnd⟩ := hW
  have hA : DataW.TrodAll enc Try.prog W 0 (fun _ => true) true Try.f3.params.toList args.toList ds p := hA0
  rw [Try.params3] at hA hval
  have hlt : ∀ x ∈ p, x.block < W.heap.size := fun x hx => hW'.lt x (List.mem_append_left _ hx)
  have hAk := hA
  obtain ⟨v0, vs0, d0, ds0, p0, q0, hargs, rfl, rfl, h0, r0⟩ := trodAll_cons hA
  obtain ⟨v1, vs1, d1, ds1, p1, q1, rfl, rfl, rfl, h1, r1⟩ := trodAll_cons r0
  obtain ⟨v2, vs2, d2, ds2, p2, q2, rfl, rfl, rfl, h2, r2⟩ := trodAll_cons r1
  obtain ⟨v3, vs3, d3, ds3, p3, q3, rfl, rfl, rfl, h3, r3⟩ := trodAll_cons r2
  obtain ⟨v4, vs4, d4, ds4, p4, q4, rfl, rfl, rfl, h4, r4⟩ := trodAll_cons r3
  obtain ⟨rfl, rfl, rfl⟩ := trodAll_nil r4
  obtain rfl : args = #[v0, v1, v2, v3, v4] := by cases args; simp_all
  obtain ⟨rfl, rfl⟩ := trodVars_none hV
  obtain ⟨a1, rfl, rfl, rfl, _⟩ := open_int Try.underlying3 (hval 1 3 v1 rfl rfl) h1
  obtain ⟨a2, rfl, rfl, rfl, _⟩ := open_int Try.underlying3 (hval 2 3 v2 rfl rfl) h2
  obtain ⟨a3, rfl, rfl, rfl, _⟩ := open_int Try.underlying3 (hval 3 3 v3 rfl rfl) h3
  obtain ⟨a4, rfl, rfl, rfl, _⟩ := open_int Try.underlying3 (hval 4 3 v4 rfl rfl) h4
  obtain ⟨cs, rfl, _⟩ := okWide_struct und27 (hval 0 27 v0 rfl rfl)
  obtain ⟨fuel, h0⟩ := h0
  obtain ⟨u1, u2, u3, u4, L, c, hcs, hL⟩ := open_land h0
  obtain rfl : cs = #[u1, u2, u3, u4] := by
    have h : cs.toList = [u1, u2, u3, u4] := hcs
    cases cs
    simp at h
    rw [h]
  clear hA0 hval0 hval hA
  simp only [List.append_nil] at hW'
  simp only [List.append_nil] at hAk hlt
  refine (whys_law u1 u2 u3 u4 L c a1 a2 a3 a4 W hL).mono fun e W' ⟨he, hg⟩ => ?_
  subst he
  refine ⟨_, rfl, post_below (pv := []) hW' hg (fun _ _ _ => (trodAll_cons_mk (shut_bool Try.underlying4 _) trodAll_mk0)) (fun sp hsp => ?_) (fun _ _ => rfl) (List.append_nil _).symm
    (ok_one (by kernel_rfl) rfl (okWide_bool_mk Try.underlying4 _))⟩
  rw [Try.params3]
  refine args_stay laid_out hg (fun t ht => ?_) hAk hlt sp (fun x hx => hsp x (by first | exact hx | simpa using hx))
  simp only [List.mem_cons, List.not_mem_nil, or_false] at ht
  rcases ht with rfl | rfl | rfl | rfl | rfl
  · exact rec27
  · exact rec3
  · exact rec3
  · exact rec3
  · exact rec3

theorem hillWhys_over : Rows.hillWhysRow.holds Try.pinned (OpenSpec.ofChange Rows.hillWhysSpec) :=
  OpenClaim.holds_of_wide 3 Try.f3 rfl rfl rfl rfl rfl rfl rfl ⟨rfl, rfl, rfl, rfl, rfl⟩ rfl rfl rfl rfl rfl (by kernel_rfl) Try.func3 (by kernel_rfl)
    (of_decide_eq_true (by kernel_rfl)) (by unfold Func.isWrapper; first | (rw [if_pos (by decide +kernel)]; kernel_rfl) | (rw [if_neg (by decide +kernel)]; exact ⟨rfl, rfl⟩))
    (fun os started H enc _ => hillWhys_lifted os started H enc)

theorem HillWhys_holds : Rows.HillWhysSaid := hillWhys_over

end Go.Proofs.Ytlnagjdokfkjoaa
