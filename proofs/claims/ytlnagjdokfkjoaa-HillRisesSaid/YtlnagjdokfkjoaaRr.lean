/-
  HillRises holds: the rise of any station for another one is as the reference has it, which tries each number, or the error is. No condition.
-/
import Derived.Test.YtlnagjdokfkjoaaRd
namespace Go.Proofs.Ytlnagjdokfkjoaa
open Go.RowKit

set_option maxRecDepth 100000 in
set_option maxHeartbeats 3000000 in
theorem rises_law (v1 v2 v3 v4 : Value) (L : Ld) (c : List (Value × List Cl)) (x y : Int) (w : World) (hL : LandAny w v1 v2 v3 v4 L c) :
    Calls Try.prog 6 #[.agg #[v1, v2, v3, v4], .int .i64 x, .int .i64 y] w fun e w' => e = .returned (.bool true) ∧ Below w.heap.size w w' := by
  have HA := Lib.hid hL
  obtain ⟨A1, cap1, rfl, _, _⟩ := hL.st.form
  obtain ⟨A2, cap2, rfl, _, _⟩ := hL.rg.form
  obtain ⟨A3, cap3, rfl, _, _⟩ := hL.cs.form
  obtain ⟨A4, cap4, rfl, _, _⟩ := hL.sn.form
  have Hcl := Lib.hid (show c.length = L.cs.length by rw [← hL.eq]; simp)
  clear hL
  cases hth : thinB L
  case false =>
    have Hth := Lib.hid hth
    clear hth
    go_enter Try.func6, Try.ntmps6
    go_wp2_with fail
    refine (Thin_any _ _ _ _ L c _ (HA.out.kept (up_alloc up0 _))).mono ?_
    rintro e y0 ⟨rfl, hb⟩
    rw [Hth.out]
    go_wp2_with fail
    refine (awake_any _).mono ?_
    rintro e y1 ⟨rfl, hb2⟩
    go_wp2_with fail
    go_ret
    exact ⟨rfl, up_later (up_later (up_alloc up0 _) hb) hb2⟩
  have HT0 := Lib.hid (HA.out.thin hth)
  have Hth := Lib.hid hth
  clear hth
  obtain ⟨o, ho⟩ : ∃ o, openI L 0 0 [x, y] = o := ⟨_, rfl⟩
  have HO := Lib.hid ho
  by_cases h0 : o = 0
  · subst h0
    obtain ⟨i, j, _, _, rfl, rfl, -, -⟩ := nats_of ho
    obtain ⟨he, _, _, hst⟩ := open_ok ho
    have hok := land_ok he
    have hi := hst i (by simp)
    have hj := hst j (by simp)
    obtain ⟨s, hs⟩ : ∃ s, L.st[i]? = some s := ⟨_, List.getElem?_eq_getElem (by omega)⟩
    obtain ⟨t, ht⟩ : ∃ s, L.st[j]? = some s := ⟨_, List.getElem?_eq_getElem (by omega)⟩
    have hrise : riseI L i j = match (List.range (1000 - s.z + 1).toNat).find? (clearB L s t) with | some n => (((n : Nat) : Int), (0 : Int)) | none => (0, 9) := by
      unfold riseI
      rw [if_neg (by simp [ho])]
      simp [stAt, hs, ht]
      rfl
    have Hok := Lib.hid hok
    have Hs := Lib.hid hs
    have Ht := Lib.hid ht
    cases hf : (List.range (1000 - s.z + 1).toNat).find? (clearB L s t) with
    | none =>
      have HR := Lib.hid (show riseI L i j = (0, 9) by rw [hrise, hf])
      have HRR := Lib.hid (show refRise L s t = -1 by unfold refRise; rw [hf])
      clear hrise hf ho he hst hok hi hj hs ht
      go_enter Try.func6, Try.ntmps6
      go_wp2_with fail
      have BX := Lib.hid (Box.new (w := w) (t := 27) (cs := #[.slice A1 L.st.length cap1, .slice A2 L.rg.length cap2, .slice A3 c.length cap3, .slice A4 L.sn.length cap4]) rfl)
      have HB := Lib.hid (up_alloc (up0 (w := w)) (.cells #[.slice A1 L.st.length cap1, .slice A2 L.rg.length cap2, .slice A3 c.length cap3, .slice A4 L.sn.length cap4] 27))
      have HT := Lib.hid (HT0.out.kept HB.out)
      refine (Thin_any _ _ _ _ L c _ (HA.out.kept HB.out)).mono ?_
      rintro e y0 ⟨rfl, hb⟩
      rw [Hth.out]
      have HB := Lib.hid (up_later HB.out hb)
      have HT := Lib.hid (HT.out.kept hb)
      have BX := Lib.hid (BX.out.kept hb)
      clear hb
      have BB := BX.out
      have cB := fun i => BB.cell i
      go_wp2_with fail
      clear cB BB
      refine (Land_any _ _ _ _ L c _ HT.out).mono ?_
      rintro e ya ⟨a1, a2, a3, a4, ca, rfl, hl, hb⟩
      have Hl := Lib.hid hl
      clear hl
      have HB := Lib.hid (up_later HB.out hb)
      have HT := Lib.hid (HT.out.kept hb)
      have BX := Lib.hid (BX.out.kept hb)
      clear hb
      go_wp2_with fail
      have AA := Rise_any _ _ _ _ L _ i j ya Hl.out
      rw [HR.out] at AA
      refine AA.mono ?_
      rintro e yb ⟨rfl, hb⟩
      clear AA Hl
      have HB := Lib.hid (up_later HB.out hb)
      have HT := Lib.hid (HT.out.kept hb)
      have BX := Lib.hid (BX.out.kept hb)
      clear hb
      have BB := BX.out
      have cB := fun i => BB.cell i
      go_wp2_with fail
      clear cB BB
      refine (Lasked_any _ _ _ _ L c i j 0 0 _ HT.out).mono ?_
      rintro e yc ⟨rfl, hb⟩
      rw [HO.out]
      have HB := Lib.hid (up_later HB.out hb)
      have HT := Lib.hid (HT.out.kept hb)
      have BX := Lib.hid (BX.out.kept hb)
      clear hb
      have BB := BX.out
      have cB := fun i => BB.cell i
      go_wp2_with fail
      clear cB BB
      refine (RRise_any _ _ _ _ L c i j s t _ HT.out Hok.out Hs.out Ht.out).mono ?_
      rintro e yd ⟨rfl, hb⟩
      rw [HRR.out]
      have HB := Lib.hid (up_later HB.out hb)
      have HT := Lib.hid (HT.out.kept hb)
      have BX := Lib.hid (BX.out.kept hb)
      clear hb
      go_wp2_with fail
      refine (awake_any _).mono ?_
      rintro e y9 ⟨rfl, hb⟩
      go_wp2_with fail
      go_ret
      exact ⟨by simp [go_sem], up_later HB.out hb⟩
    | some n =>
      have HR := Lib.hid (show riseI L i j = ((n : Int), 0) by rw [hrise, hf])
      have HRR := Lib.hid (show refRise L s t = n by unfold refRise; rw [hf])
      have n0 : ¬ (n : Int) < 0 := by omega
      have nn : ((n : Int) == (n : Int)) = true := by simp
      clear hrise hf ho he hst hok hi hj hs ht
      go_enter Try.func6, Try.ntmps6
      go_wp2_with fail
      have BX := Lib.hid (Box.new (w := w) (t := 27) (cs := #[.slice A1 L.st.length cap1, .slice A2 L.rg.length cap2, .slice A3 c.length cap3, .slice A4 L.sn.length cap4]) rfl)
      have HB := Lib.hid (up_alloc (up0 (w := w)) (.cells #[.slice A1 L.st.length cap1, .slice A2 L.rg.length cap2, .slice A3 c.length cap3, .slice A4 L.sn.length cap4] 27))
      have HT := Lib.hid (HT0.out.kept HB.out)
      refine (Thin_any _ _ _ _ L c _ (HA.out.kept HB.out)).mono ?_
      rintro e y0 ⟨rfl, hb⟩
      rw [Hth.out]
      have HB := Lib.hid (up_later HB.out hb)
      have HT := Lib.hid (HT.out.kept hb)
      have BX := Lib.hid (BX.out.kept hb)
      clear hb
      have BB := BX.out
      have cB := fun i => BB.cell i
      go_wp2_with fail
      clear cB BB
      refine (Land_any _ _ _ _ L c _ HT.out).mono ?_
      rintro e ya ⟨a1, a2, a3, a4, ca, rfl, hl, hb⟩
      have Hl := Lib.hid hl
      clear hl
      have HB := Lib.hid (up_later HB.out hb)
      have HT := Lib.hid (HT.out.kept hb)
      have BX := Lib.hid (BX.out.kept hb)
      clear hb
      go_wp2_with fail
      have AA := Rise_any _ _ _ _ L _ i j ya Hl.out
      rw [HR.out] at AA
      refine AA.mono ?_
      rintro e yb ⟨rfl, hb⟩
      clear AA Hl
      have HB := Lib.hid (up_later HB.out hb)
      have HT := Lib.hid (HT.out.kept hb)
      have BX := Lib.hid (BX.out.kept hb)
      clear hb
      have BB := BX.out
      have cB := fun i => BB.cell i
      go_wp2_with fail
      clear cB BB
      refine (Lasked_any _ _ _ _ L c i j 0 0 _ HT.out).mono ?_
      rintro e yc ⟨rfl, hb⟩
      rw [HO.out]
      have HB := Lib.hid (up_later HB.out hb)
      have HT := Lib.hid (HT.out.kept hb)
      have BX := Lib.hid (BX.out.kept hb)
      clear hb
      have BB := BX.out
      have cB := fun i => BB.cell i
      go_wp2_with fail
      clear cB BB
      refine (RRise_any _ _ _ _ L c i j s t _ HT.out Hok.out Hs.out Ht.out).mono ?_
      rintro e yd ⟨rfl, hb⟩
      rw [HRR.out]
      have HB := Lib.hid (up_later HB.out hb)
      have HT := Lib.hid (HT.out.kept hb)
      have BX := Lib.hid (BX.out.kept hb)
      clear hb
      go_wp2_with fail
      refine (awake_any _).mono ?_
      rintro e y9 ⟨rfl, hb⟩
      go_wp2_with fail
      go_ret
      exact ⟨by simp [go_sem], up_later HB.out hb⟩
  · have HR := Lib.hid (show riseI L x y = (0, o) by unfold riseI; rw [if_pos (by rw [ho]; exact h0), ho])
    have hne : (o != 0) = true := by simpa using h0
    have oo : (o == o) = true := by simp
    clear ho h0
    go_enter Try.func6, Try.ntmps6
    go_wp2_with fail
    have BX := Lib.hid (Box.new (w := w) (t := 27) (cs := #[.slice A1 L.st.length cap1, .slice A2 L.rg.length cap2, .slice A3 c.length cap3, .slice A4 L.sn.length cap4]) rfl)
    have HB := Lib.hid (up_alloc (up0 (w := w)) (.cells #[.slice A1 L.st.length cap1, .slice A2 L.rg.length cap2, .slice A3 c.length cap3, .slice A4 L.sn.length cap4] 27))
    have HT := Lib.hid (HT0.out.kept HB.out)
    refine (Thin_any _ _ _ _ L c _ (HA.out.kept HB.out)).mono ?_
    rintro e y0 ⟨rfl, hb⟩
    rw [Hth.out]
    have HB := Lib.hid (up_later HB.out hb)
    have HT := Lib.hid (HT.out.kept hb)
    have BX := Lib.hid (BX.out.kept hb)
    clear hb
    have BB := BX.out
    have cB := fun i => BB.cell i
    go_wp2_with fail
    clear cB BB
    refine (Land_any _ _ _ _ L c _ HT.out).mono ?_
    rintro e ya ⟨a1, a2, a3, a4, ca, rfl, hl, hb⟩
    have Hl := Lib.hid hl
    clear hl
    have HB := Lib.hid (up_later HB.out hb)
    have HT := Lib.hid (HT.out.kept hb)
    have BX := Lib.hid (BX.out.kept hb)
    clear hb
    go_wp2_with fail
    have AA := Rise_any _ _ _ _ L _ x y ya Hl.out
    rw [HR.out] at AA
    refine AA.mono ?_
    rintro e yb ⟨rfl, hb⟩
    clear AA Hl
    have HB := Lib.hid (up_later HB.out hb)
    have HT := Lib.hid (HT.out.kept hb)
    have BX := Lib.hid (BX.out.kept hb)
    clear hb
    have BB := BX.out
    have cB := fun i => BB.cell i
    go_wp2_with fail
    clear cB BB
    refine (Lasked_any _ _ _ _ L c x y 0 0 _ HT.out).mono ?_
    rintro e yc ⟨rfl, hb⟩
    rw [HO.out]
    have HB := Lib.hid (up_later HB.out hb)
    have HT := Lib.hid (HT.out.kept hb)
    have BX := Lib.hid (BX.out.kept hb)
    clear hb
    have BB := BX.out
    have cB := fun i => BB.cell i
    go_wp2_with fail
    clear cB BB
    refine (awake_any _).mono ?_
    rintro e y9 ⟨rfl, hb⟩
    go_wp2_with fail
    go_ret
    exact ⟨by simp [go_sem], up_later HB.out hb⟩

end Go.Proofs.Ytlnagjdokfkjoaa

namespace Go.Proofs.Ytlnagjdokfkjoaa
open Go.ChangeShapes Go.WideShapes Go.ChangeAt Go.RowKit

theorem rec3 : Try.prog.readableRec 3 = true ∧ 3 < Try.prog.types.size := ⟨by kernel_rfl, by have h : decide (3 < Try.prog.types.size) = true := (by kernel_rfl); exact of_decide_eq_true h⟩
set_option maxRecDepth 100000 in
theorem hillRises_lifted (os : Os) (started : os.Started) (H : Type) (enc : TypeId × Value → H) :
    ReturnsInHanded {} Try.checked os 6 .any (Rows.hillRisesSpec.pre6 enc Try.prog Try.f6 Rows.hillRisesRow.domain false) (Rows.hillRisesSpec.post enc Try.prog Try.f6 false true false false) := by
  refine returnsInHanded_of_change (C := Try.checked) own_knob started (by kernel_rfl) Try.func6
    (ChangeSpec.witness6 (enc := enc) (C := Try.checked) false ⟨#[], #[.agg #[.slice Option.none 0 0, .slice Option.none 0 0, .slice Option.none 0 0, .slice Option.none 0 0], .int .i64 0, .int .i64 0], []⟩ 8 (by kernel_rfl) (by kernel_rfl) (by kernel_rfl) (by kernel_rfl)) ?_
  intro W base args ds gs before hval0 hW hcnd _
  have hval : ∀ (j : Nat) t v, Try.f6.params[j]? = some t → args[j]? = some v → Value.okWide Try.prog W .any base t v := hval0
  have hW' := hW
  obtain ⟨p, q, hA0, hV, rfl, hfz, hnd⟩ := hW
  have hA : DataW.TrodAll enc Try.prog W 0 (fun _ => true) true Try.f6.params.toList args.toList ds p := hA0
  rw [Try.params6] at hA hval
  have hlt : ∀ x ∈ p, x.block < W.heap.size := fun x hx => hW'.lt x (List.mem_append_left _ hx)
  have hAk := hA
  obtain ⟨v0, vs0, d0, ds0, p0, q0, hargs, rfl, rfl, h0, r0⟩ := trodAll_cons hA
  obtain ⟨v1, vs1, d1, ds1, p1, q1, rfl, rfl, rfl, h1, r1⟩ := trodAll_cons r0
  obtain ⟨v2, vs2, d2, ds2, p2, q2, rfl, rfl, rfl, h2, r2⟩ := trodAll_cons r1
  obtain ⟨rfl, rfl, rfl⟩ := trodAll_nil r2
  obtain rfl : args = #[v0, v1, v2] := by cases args; simp_all
  obtain ⟨rfl, rfl⟩ := trodVars_none hV
  obtain ⟨a1, rfl, rfl, rfl, _⟩ := open_int Try.underlying3 (hval 1 3 v1 rfl rfl) h1
  obtain ⟨a2, rfl, rfl, rfl, _⟩ := open_int Try.underlying3 (hval 2 3 v2 rfl rfl) h2
  obtain ⟨cs, rfl, _⟩ := okWide_struct und27 (hval 0 27 v0 rfl rfl)
  obtain ⟨fuel, h0⟩ := h0
  obtain ⟨u1, u2, u3, u4, L, c, hcs, hL⟩ := open_land h0
  obtain rfl : cs = #[u1, u2, u3, u4] := by
    have h : cs.toList = [u1, u2, u3, u4] := hcs
    cases cs
    simp at h
    rw [h]
  clear hA0 hval0 hval hA
  simp only [List.append_nil] at hW'
  simp only [List.append_nil] at hAk hlt
  refine (rises_law u1 u2 u3 u4 L c a1 a2 W hL).mono fun e W' ⟨he, hg⟩ => ?_
  subst he
  refine ⟨_, rfl, post_below (pv := []) hW' hg (fun _ _ _ => (trodAll_cons_mk (shut_bool Try.underlying4 _) trodAll_mk0)) (fun sp hsp => ?_) (fun _ _ => rfl) (List.append_nil _).symm
    (ok_one (by kernel_rfl) rfl (okWide_bool_mk Try.underlying4 _))⟩
  rw [Try.params6]
  refine args_stay laid_out hg (fun t ht => ?_) hAk hlt sp (fun x hx => hsp x (by first | exact hx | simpa using hx))
  simp only [List.mem_cons, List.not_mem_nil, or_false] at ht
  rcases ht with rfl | rfl | rfl
  · exact rec27
  · exact rec3
  · exact rec3

theorem hillRises_over : Rows.hillRisesRow.holds Try.pinned (OpenSpec.ofChange Rows.hillRisesSpec) :=
  OpenClaim.holds_of_wide 6 Try.f6 rfl rfl rfl rfl rfl rfl rfl ⟨rfl, rfl, rfl, rfl, rfl⟩ rfl rfl rfl rfl rfl (by kernel_rfl) Try.func6 (by kernel_rfl)
    (of_decide_eq_true (by kernel_rfl)) (by unfold Func.isWrapper; first | (rw [if_pos (by decide +kernel)]; kernel_rfl) | (rw [if_neg (by decide +kernel)]; exact ⟨rfl, rfl⟩))
    (fun os started H enc _ => hillRises_lifted os started H enc)

theorem HillRises_holds : Rows.HillRisesSaid := hillRises_over

end Go.Proofs.Ytlnagjdokfkjoaa
