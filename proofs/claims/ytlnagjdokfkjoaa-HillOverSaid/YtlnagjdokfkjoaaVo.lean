/-
  HillOver holds: a wall whose Top is lower than both stations, or whose Base is higher than both, does not block. No condition.
-/
import Derived.Test.YtlnagjdokfkjoaaMe
import Derived.Test.YtlnagjdokfkjoaaVc
import Derived.Test.YtlnagjdokfkjoaaVn
namespace Go.Proofs.Ytlnagjdokfkjoaa
open Go.RowKit

theorem over_has {L : Ld} {i j : Nat} {s t : St} {m : Wl} {zs : List Cl} {k : Nat} {h : Int} (hs : stAt L i = s) (ht : stAt L j = t) (hk : k < L.cs.length) (hh : 0 ≤ h) :
    withinB [(zs.length : Int)] (cloudsI (setCs L k (zs ++ [⟨m, 0, h⟩])) i j (k : Nat) (0 : Nat)) = blocksW s t m := by
  rw [case_this hk, which_last rfl, hs, ht]
  unfold cloudB
  rw [inB_iff.2 (show (0 : Int) ≤ ((0 : Nat) : Int) ∧ ((0 : Nat) : Int) ≤ h by omega), Bool.true_and]

set_option maxRecDepth 100000 in
set_option maxHeartbeats 4000000 in
theorem over_law (v1 v2 v3 v4 : Value) (L : Ld) (c : List (Value × List Cl)) (x y : Int) (m : Wl) (w : World) (hL : LandAny w v1 v2 v3 v4 L c) (hx : 0 ≤ x ∧ x ≤ 255) (hy : 0 ≤ y ∧ y ≤ 255) :
    Calls Try.prog 13 #[.agg #[v1, v2, v3, v4], .int .u8 x, .int .u8 y, .agg #[iv m.x1, iv m.y1, iv m.x2, iv m.y2, iv m.b, iv m.t]] w fun e w' => e = .returned (.bool true) ∧ Below w.heap.size w w' := by
  obtain ⟨hy0, hy1⟩ := hy
  obtain ⟨i5, hi5, hz50, hz51, hz52⟩ := info_parts info82
  have HA := Lib.hid hL
  obtain ⟨A1, cap1, rfl, _, _⟩ := hL.st.form
  obtain ⟨A2, cap2, rfl, _, _⟩ := hL.rg.form
  obtain ⟨A3, cap3, rfl, _, _⟩ := hL.cs.form
  obtain ⟨A4, cap4, rfl, _, _⟩ := hL.sn.form
  have Hcl := Lib.hid (show c.length = L.cs.length by rw [← hL.eq]; simp)
  clear hL
  cases hr : readyB L
  case false =>
    have Hr := Lib.hid hr
    clear hr
    go_enter Try.func13, Try.ntmps13
    go_wp2_with fail
    refine (Lready_any _ _ _ _ L c _ (HA.out.kept (up_alloc (up_alloc up0 _) _))).mono ?_
    rintro e y0 ⟨rfl, hb⟩
    rw [Hr.out]
    go_wp2_with fail
    refine (awake_any _).mono ?_
    rintro e y1 ⟨rfl, hb2⟩
    go_wp2_with fail
    go_ret
    exact ⟨rfl, up_later (up_later (up_alloc (up_alloc up0 _) _) hb) hb2⟩
  have hq := hr
  simp only [readyB, Bool.and_eq_true, beq_iff_eq, decide_eq_true_eq] at hq
  obtain ⟨⟨hth, he⟩, h1n⟩ := hq
  have hT := HA.out.thin hth
  have hok := land_ok he
  obtain ⟨_, hl6, hg6, hc0, hc4, hs0, hs12⟩ := hok.len
  have hcl := Hcl.out
  obtain ⟨i, hi, hin⟩ := nat_mod (x := x) (n := L.st.length) (by omega)
  obtain ⟨j, hj, hjn⟩ := nat_mod (x := x % (L.st.length : Int) + 1 + x / 8 % ((L.st.length : Int) - 1)) (n := L.st.length) (by omega)
  have hij : i ≠ j := by
    have h := mod_ne (n := (L.st.length : Int)) (x := x) (by omega)
    rw [hi] at h hj
    rw [hj] at h
    omega
  have o1 : ∀ k h : Nat, k < L.cs.length → h < L.sn.length → openI L k h [(i : Int), (j : Int)] = 0 := fun k h hk hh => open_zero he hin hjn hk hh hij
  have Hr := Lib.hid hr
  have HT0 := Lib.hid hT
  have Hpi := Lib.hid (show (pairI (L.st.length : Int) x).1 = i from hi)
  have Hpj := Lib.hid (show (pairI (L.st.length : Int) x).2 = j from hj)
  have hn1 : L.st.length ≤ 1000 := by omega
  have i0 : (0 : Int) ≤ (i : Int) := by omega
  have i1 : (i : Int) < (L.st.length : Int) := by omega
  have j0 : (0 : Int) ≤ (j : Int) := by omega
  have j1 : (j : Int) < (L.st.length : Int) := by omega
  have He := Lib.hid he
  have Hok := Lib.hid hok
  obtain ⟨k, hk, hkn⟩ := nat_mod (x := y) (n := c.length) (by omega)
  have hkc : k < L.cs.length := by omega
  have Hk := Lib.hid hk
  have cz : ¬ (c.length : Int) = 0 := by omega
  have cz' : ((c.length : Int) == 0) = false := by rw [beq_eq_false_iff_ne]; omega
  have k0 : (0 : Int) ≤ (k : Int) := by omega
  have k1 : (k : Int) < (c.length : Int) := by omega
  obtain ⟨s1, hs1⟩ : ∃ s, L.st[i]? = some s := ⟨_, List.getElem?_eq_getElem hin⟩
  obtain ⟨s2, hs2⟩ : ∃ s, L.st[j]? = some s := ⟨_, List.getElem?_eq_getElem hjn⟩
  obtain ⟨zs, hzs⟩ : ∃ s, L.cs[k]? = some s := ⟨_, List.getElem?_eq_getElem hkc⟩
  have HS1 := Lib.hid hs1
  have HS2 := Lib.hid hs2
  have HZ := Lib.hid hzs
  have Hkc := Lib.hid hkc
  have k2 : (k : Int) < (L.cs.length : Int) := by omega
  obtain ⟨X, hX⟩ : ∃ X, X = setCs L k (zs ++ [⟨m, 0, (L.sn.length : Int) - 1⟩]) := ⟨_, rfl⟩
  have HEX := Lib.hid hX
  have hX1 : X.st.length = L.st.length := by rw [hX]; rfl
  have hX2 : X.rg.length = L.rg.length := by rw [hX]; rfl
  have hX3 : X.cs.length = L.cs.length := by rw [hX]; simp [setCs]
  have hX4 : X.sn.length = L.sn.length := by rw [hX]; rfl
  have hXl : ∀ x ∈ X.cs, x.length ≤ 1000 := by
    rw [hX]
    exact len_other he (by have := case_len he zs (List.mem_of_getElem? hzs); simp; omega)
  have HXL := Lib.hid hXl
  have HH := Lib.hid (show withinB [(zs.length : Int)] (cloudsI X i j k 0) = blocksW s1 s2 m by
    rw [hX]
    exact over_has (stAt_this hs1) (stAt_this hs2) hkc (by omega))
  have HWX := Lib.hid (fun he2 : errI X = 0 => show wallsE X i j k 0 = (ridgesI X i j, cloudsI X i j k 0, 0) from by
    have := open_zero (h := 0) he2 (show i < X.st.length by omega) (show j < X.st.length by omega) (show k < X.cs.length by omega) (show 0 < X.sn.length by omega) hij
    unfold wallsE
    rw [if_neg (by simpa using this)])
  have hzl : zs.length ≤ 1000 := lens hT zs (List.mem_of_getElem? hzs)
  have hcl1 : c.length ≤ 1000 := hT.cs.form.1
  have hlen := Lib.hid (lens hT)
  have K1 : IntKind.i64.wrap ((L.sn.length : Int) - 1) = (L.sn.length : Int) - 1 := wrapK_in _ 2000 (by omega) (by omega)
  have Hij := Lib.hid hij
  have Hin := Lib.hid hin
  have Hjn := Lib.hid hjn
  have Hs0 := Lib.hid hs0
  clear hr hT hok hi hj hk hth he hcl hs1 hs2 hzs hkc hcl1 hX hXl
  obtain ⟨ba, oa, rfl, _, _⟩ := HT0.out.st.at rfl HS1.out
  obtain ⟨Ac, pc, hck, _⟩ := HT0.out.case HZ.out
  obtain ⟨b4, o4, rfl, _, _⟩ := HT0.out.cs.at rfl hck
  have HCK := Lib.hid hck
  clear hck
  obtain ⟨lo, e1⟩ : ∃ z : Int, (if s2.z < s1.z then s2.z else s1.z) = z := ⟨_, rfl⟩
  obtain ⟨hi, e2⟩ : ∃ z : Int, (if s1.z < s2.z then s2.z else s1.z) = z := ⟨_, rfl⟩
  have hlo' : lo = min s1.z s2.z := by rw [← e1]; split <;> omega
  have hhi' : hi = max s1.z s2.z := by rw [← e2]; split <;> omega
  have E1 := Lib.hid e1
  have E2 := Lib.hid e2
  clear e1 e2
  go_enter Try.func13, Try.ntmps13
  go_wp2_with fail
  have BX := Lib.hid ((Box.new (w := w) (t := 27) (cs := #[.slice (some ⟨ba, oa, none⟩) L.st.length cap1, .slice A2 L.rg.length cap2, .slice (some ⟨b4, o4, none⟩) c.length cap3, .slice A4 L.sn.length cap4]) rfl).alloc (.cells #[iv m.x1, iv m.y1, iv m.x2, iv m.y2, iv m.b, iv m.t] 79))
  have BW := Lib.hid (Box.new (w := w.alloc (.cells #[.slice (some ⟨ba, oa, none⟩) L.st.length cap1, .slice A2 L.rg.length cap2, .slice (some ⟨b4, o4, none⟩) c.length cap3, .slice A4 L.sn.length cap4] 27)) (g := w.heap.size + 1) (t := 79) (cs := #[iv m.x1, iv m.y1, iv m.x2, iv m.y2, iv m.b, iv m.t]) (by simp))
  have HB := Lib.hid (up_alloc (up_alloc (up0 (w := w)) (.cells #[.slice (some ⟨ba, oa, none⟩) L.st.length cap1, .slice A2 L.rg.length cap2, .slice (some ⟨b4, o4, none⟩) c.length cap3, .slice A4 L.sn.length cap4] 27)) (.cells #[iv m.x1, iv m.y1, iv m.x2, iv m.y2, iv m.b, iv m.t] 79))
  have HT := Lib.hid (HT0.out.kept HB.out)
  refine (Lready_any _ _ _ _ L c _ (HA.out.kept HB.out)).mono ?_
  rintro e y0 ⟨rfl, hb⟩
  rw [Hr.out]
  have HB := Lib.hid (up_later HB.out hb)
  have HT := Lib.hid (HT.out.kept hb)
  have BX := Lib.hid (BX.out.kept hb)
  have BW := Lib.hid (BW.out.kept hb)
  clear hb
  have BB := BX.out
  have cB := fun i => BB.cell i
  go_wp2_with fail
  clear cB BB
  refine (Lpair_any _ L.st.length cap1 _ _ _ x _ h1n hn1 hx).mono ?_
  rintro e y1 ⟨rfl, hb⟩
  rw [Hpi.out, Hpj.out]
  have HB := Lib.hid (up_later HB.out hb)
  have HT := Lib.hid (HT.out.kept hb)
  have BX := Lib.hid (BX.out.kept hb)
  have BW := Lib.hid (BW.out.kept hb)
  clear hb
  have BB := BX.out
  have cB := fun i => BB.cell i
  go_wp2_with fail
  clear cB BB
  rw [Hk.out]
  refine (copied_any _ _ _ _ L c _ HT.out).mono ?_
  rintro e y2 ⟨u1, u2, u3, u4, cx, rfl, hcop, hb⟩
  obtain ⟨F1, m1, p1, rfl⟩ := own_form hcop.o1
  obtain ⟨F2, m2, p2, rfl⟩ := own_form hcop.o2
  obtain ⟨F3, m3, p3, rfl⟩ := own_form hcop.o3
  obtain ⟨F4, m4, p4, rfl⟩ := own_form hcop.o4
  obtain ⟨Fz, mz, pz, hq, hzo⟩ := hcop.case HZ.out
  obtain ⟨b3, f3, rfl, hb3l, hq3⟩ := (hcop.land (by omega) (by omega) (by omega) (by omega) hlen.out).cs.at rfl hq
  obtain ⟨rfl, rfl, _⟩ := own_put (i := 0) (u := iv 0) hcop.o3
  have hlo := hcop.o3.lt b3 rfl
  have HCP := Lib.hid hcop
  have HCB := Lib.hid hb
  have HQ := Lib.hid hq
  clear hcop hb hq hq3 hzo
  go_wp2_with fail
  have XB := Box.new (w := y2) (t := 27) (cs := #[.slice F1 m1 p1, .slice F2 m2 p2, .slice (some ⟨b3, 0, none⟩) L.cs.length p3, .slice F4 m4 p4]) rfl
  have hb0 := up_alloc HCB.out (.cells #[.slice F1 m1 p1, .slice F2 m2 p2, .slice (some ⟨b3, 0, none⟩) L.cs.length p3, .slice F4 m4 p4] 27)
  have HC1 := Lib.hid (HCP.out.kept (up_alloc up0 (.cells #[.slice F1 m1 p1, .slice F2 m2 p2, .slice (some ⟨b3, 0, none⟩) L.cs.length p3, .slice F4 m4 p4] 27)))
  have bx := BX.out.kept hb0
  have bw := BW.out.kept hb0
  have HZO := Lib.hid (show (y2.alloc (.cells #[.slice F1 m1 p1, .slice F2 m2 p2, .slice (some ⟨b3, 0, none⟩) L.cs.length p3, .slice F4 m4 p4] 27)).ownsRow y1.heap.size 82 8 (.slice Fz mz pz) zs.length (zs.flatMap Cl.cells) from HC1.out.each (.slice Fz mz pz, zs) (List.mem_of_getElem? HQ.out))
  have n_XB := box_not_own XB (by decide) HZO.out
  have n_bx := box_not_own bx (by decide) HZO.out
  have n_bw := box_not_own bw (by decide) HZO.out
  have hrow : ∀ b, (Value.slice Fz mz pz).ownBlock = some b → b < (y2.alloc (.cells #[.slice F1 m1 p1, .slice F2 m2 p2, .slice (some ⟨b3, 0, none⟩) L.cs.length p3, .slice F4 m4 p4] 27)).heap.size := fun b hb => (HZO.out.lt b hb).2
  apply wp_region_once 17 15 (Value.slice Fz mz pz).ownBlock [(FactR.eq _ _), (FactR.eq _ _), (FactR.eq _ _), (FactR.eq _ _), (FactR.eq _ _), (FactR.eq _ _), (FactR.eq _ _), (FactR.eq _ _), (FactR.eq _ _), (FactR.eq _ _), (FactR.eq _ _), (FactR.eq _ _), (FactR.eq _ _), (FactR.eq _ _), (FactR.sl _ 1 82 #[iv m.x1, iv m.y1, iv m.x2, iv m.y2, iv m.b, iv m.t, iv 0, iv ((L.sn.length : Int) - 1)]), (FactR.any _), (FactR.eq _ _)] (Fresh y1.heap.size 82 8 (.slice Fz mz pz) (zs.length + 1) (zs.flatMap Cl.cells ++ Cl.cells ⟨m, 0, (L.sn.length : Int) - 1⟩))
  case hm => kernel_rfl
  case hB => kernel_rfl
  case hpn => decide
  case hFp => exact fresh_grown
  case hA => (intro vs; simp only [List.take_succ_cons, List.take_zero, putAll, if_true, Act.put, List.setIfInBounds_toArray, List.set_cons_zero, List.set_cons_succ]; exact rfl)
  case hstep =>
    intro vs
    refine And.intro (fun _ w hw hd => ?_) ?_
    · refine ite_yes rfl ?_
      simp only [Gives]
      go_simp
      exact ⟨Below.refl _ _, rfl⟩
    refine And.intro (fun _ w hw hd => ?_) ?_
    · have d0 := hd 0 (by decide) rfl (by decide)
      change vs 0 = _ at d0
      refine ite_yes rfl ?_
      have c_XB := fun i => (XB.grown hw n_XB).cell i
      have c_bx := fun i => (bx.grown hw n_bx).cell i
      have c_bw := fun i => (bw.grown hw n_bw).cell i
      simp only [Gives]
      go_simp
      exact ⟨Below.refl _ _, rfl⟩
    refine And.intro (fun _ w hw hd => ?_) ?_
    · refine ite_yes rfl ?_
      simp only [Gives]
      go_simp
      exact ⟨Below.refl _ _, rfl⟩
    refine And.intro (fun _ w hw hd => ?_) ?_
    · refine ite_yes rfl ?_
      simp only [Gives]
      go_simp
      exact ⟨Below.refl _ _, rfl⟩
    refine And.intro (fun _ w hw hd => ?_) ?_
    · have d3 := hd 3 (by decide) rfl (by decide)
      change vs 3 = _ at d3
      refine ite_yes rfl ?_
      have c_XB := fun i => (XB.grown hw n_XB).cell i
      have c_bx := fun i => (bx.grown hw n_bx).cell i
      have c_bw := fun i => (bw.grown hw n_bw).cell i
      simp only [Gives]
      go_simp
      exact ⟨Below.refl _ _, rfl⟩
    refine And.intro (fun _ w hw hd => ?_) ?_
    · refine ite_yes rfl ?_
      simp only [Gives]
      go_simp
      exact ⟨Below.refl _ _, rfl⟩
    refine And.intro (fun _ w hw hd => ?_) ?_
    · have d4 := hd 4 (by decide) rfl (by decide)
      change vs 4 = _ at d4
      have d5 := hd 5 (by decide) rfl (by decide)
      change vs 5 = _ at d5
      refine ite_yes rfl ?_
      simp only [Gives]
      go_simp
      exact ⟨Below.refl _ _, rfl⟩
    refine And.intro (fun _ w hw hd => ?_) ?_
    · have d6 := hd 6 (by decide) rfl (by decide)
      change vs 6 = _ at d6
      refine ite_yes rfl ?_
      have c_XB := fun i => (XB.grown hw n_XB).cell i
      have c_bx := fun i => (bx.grown hw n_bx).cell i
      have c_bw := fun i => (bw.grown hw n_bw).cell i
      have q0 : w.cell? ⟨b3, k, none⟩ = some (.slice Fz mz pz) := own_cell (own_other HC1.out.o3 HZO.out (by decide) hw) (by simp [HQ.out])
      simp only [Gives]
      go_simp
      exact ⟨Below.refl _ _, rfl⟩
    refine And.intro (fun _ w hw hd => ?_) ?_
    · refine ite_yes rfl ?_
      have c_XB := fun i => (XB.grown hw n_XB).cell i
      have c_bx := fun i => (bx.grown hw n_bx).cell i
      have c_bw := fun i => (bw.grown hw n_bw).cell i
      simp only [Gives]
      go_simp
      exact ⟨Below.refl _ _, rfl⟩
    refine And.intro (fun _ w hw hd => ?_) ?_
    · refine ite_yes rfl ?_
      simp only [Gives]
      go_simp
      exact ⟨Below.refl _ _, rfl⟩
    refine And.intro (fun _ w hw hd => ?_) ?_
    · have d9 := hd 9 (by decide) rfl (by decide)
      change vs 9 = _ at d9
      refine ite_yes rfl ?_
      have c_XB := fun i => (XB.grown hw n_XB).cell i
      have c_bx := fun i => (bx.grown hw n_bx).cell i
      have c_bw := fun i => (bw.grown hw n_bw).cell i
      simp only [Gives]
      go_simp
      exact ⟨Below.refl _ _, rfl⟩
    refine And.intro (fun _ w hw hd => ?_) ?_
    · have d10 := hd 10 (by decide) rfl (by decide)
      change vs 10 = _ at d10
      refine ite_yes rfl ?_
      simp only [Gives]
      go_simp
      exact ⟨Below.refl _ _, rfl⟩
    refine And.intro (fun _ w hw hd => ?_) ?_
    · have d11 := hd 11 (by decide) rfl (by decide)
      change vs 11 = _ at d11
      refine ite_yes rfl ?_
      simp only [Gives]
      go_simp
      exact ⟨Below.refl _ _, rfl⟩
    refine And.intro (fun _ w hw hd => ?_) ?_
    · have d8 := hd 8 (by decide) rfl (by decide)
      change vs 8 = _ at d8
      have d12 := hd 12 (by decide) rfl (by decide)
      change vs 12 = _ at d12
      refine ite_yes rfl ?_
      simp only [Gives]
      go_simp
      exact ⟨Below.refl _ _, rfl⟩
    refine And.intro (fun _ w hw hd => ?_) ?_
    · have d13 := hd 13 (by decide) rfl (by decide)
      change vs 13 = _ at d13
      refine ite_yes rfl ?_
      simp only [Gives]
      go_simp
      exact ⟨(Below.refl _ _).alloc (Nat.le_refl _) _, ⟨_, rfl, Box.new rfl, fun e => (by have := hrow _ e.symm; have := hw.size; omega)⟩⟩
    refine And.intro (fun h => absurd rfl h) ?_
    refine And.intro (fun _ w hw hd => ?_) ?_
    · have d1 := hd 1 (by decide) rfl (by decide)
      change vs 1 = _ at d1
      have d2 := hd 2 (by decide) rfl (by decide)
      change vs 2 = _ at d2
      refine ite_yes rfl ?_
      simp only [Gives]
      go_simp
      exact ⟨Below.refl _ _, rfl⟩
    exact trivial
  case hp =>
    intro vs o ho w hw hd
    obtain rfl := Option.some.inj ho
    have d7 := hd 7 (by decide) rfl (by decide)
    change vs 7 = _ at d7
    obtain ⟨n14, d14, N14, E14⟩ := hd 14 (by decide) rfl (by decide)
    refine ⟨rfl, ?_⟩
    simp only [Gives]
    have ho := own_below HZO.out hw
    have hsz := hw.size
    have hs1 := hb0.size
    obtain ⟨v', w', hra, hoa, hga, _, hat⟩ := run_append_own_at (P := Try.prog) (w := w) y1.heap.size 80 80 82 i5 (.agg #[iv 0, iv 0, iv 0, iv 0, iv 0, iv 0, iv 0, iv 0]) 8 64 Try.underlying80 hi5 hz50 hz51 hz52 rfl (by decide) _ _ _ ho ⟨n14, 0, none⟩ 1 1 [iv m.x1, iv m.y1, iv m.x2, iv m.y2, iv m.b, iv m.t, iv 0, iv ((L.sn.length : Int) - 1)] rfl (box_newsM N14) (by simp [Value.oneCell']) (by unfold maxLen; omega) (by omega) (by omega)
    refine gives_append (.tmp 44) (.tmp 51) 80 rfl _ _ _ ?_ ?_ hra ⟨hga, hoa, hat⟩
    all_goals (go_simp)
  intro vs wt w1 wz hwt hF hwz hd
  have d0 := hd 0 (by decide) (by decide)
  change vs 0 = _ at d0
  have d1 := hd 1 (by decide) (by decide)
  change vs 1 = _ at d1
  have d2 := hd 2 (by decide) (by decide)
  change vs 2 = _ at d2
  have d3 := hd 3 (by decide) (by decide)
  change vs 3 = _ at d3
  have d4 := hd 4 (by decide) (by decide)
  change vs 4 = _ at d4
  have d5 := hd 5 (by decide) (by decide)
  change vs 5 = _ at d5
  have d6 := hd 6 (by decide) (by decide)
  change vs 6 = _ at d6
  have d7 := hd 7 (by decide) (by decide)
  change vs 7 = _ at d7
  have d8 := hd 8 (by decide) (by decide)
  change vs 8 = _ at d8
  have d9 := hd 9 (by decide) (by decide)
  change vs 9 = _ at d9
  have d10 := hd 10 (by decide) (by decide)
  change vs 10 = _ at d10
  have d11 := hd 11 (by decide) (by decide)
  change vs 11 = _ at d11
  have d12 := hd 12 (by decide) (by decide)
  change vs 12 = _ at d12
  have d13 := hd 13 (by decide) (by decide)
  change vs 13 = _ at d13
  have d16 := hd 16 (by decide) (by decide)
  change vs 16 = _ at d16
  simp only [d0, d1, d2, d3, d4, d5, d6, d7, d8, d9, d10, d11, d12, d13, d16, List.drop_succ_cons, List.drop_zero]
  clear hd d0 d1 d2 d3 d4 d5 d6 d7 d8 d9 d10 d11 d12 d13 d16
  obtain ⟨hgrow, hown', hat⟩ := hF
  have hs1' := hb0.size
  have hs2' := hwt.size
  have HCt := Lib.hid (HC1.out.kept hwt)
  have HZt := Lib.hid (own_below HZO.out hwt)
  obtain ⟨g', cap', hv⟩ := ownsRow_succ hown'
  rw [hv] at hown' hat
  simp only [hv]
  have hbz := ((up_later hb0 hwt).grown hgrow (by omega) (fun g e => (HZt.out.lt g e).1))
  have h3 := own_below (own_other HCt.out.o3 HZt.out (by decide) hgrow) hwz
  have hc3 : wz.cell? ⟨b3, k, none⟩ = some (.slice Fz mz pz) := own_cell h3 (by simp [HQ.out])
  have hf3 : wz.frozen? ⟨b3, k, none⟩ = false := own_free h3
  have XB2 := (((XB.kept hwt).grown hgrow (box_not_own (XB.kept hwt) (by decide) HZt.out)).kept hwz).far (p := ⟨b3, k, none⟩) (by simp; omega) (.slice (some ⟨g', 0, none⟩) (zs.length + 1) cap')
  have cX := fun i => XB2.cell i
  go_wp2_with fail
  have HX := Lib.hid (show Cop 74 79 80 60 82 y1.heap.size X (wz.setCell ⟨b3, k, none⟩ (.slice (some ⟨g', 0, none⟩) (zs.length + 1) cap')) (.slice F1 m1 p1) (.slice F2 m2 p2) (.slice (some ⟨b3, 0, none⟩) L.cs.length p3) (.slice F4 m4 p4) (cx.set k (.slice (some ⟨g', 0, none⟩) (zs.length + 1) cap', zs ++ [⟨m, 0, (L.sn.length : Int) - 1⟩])) by
    rw [HEX.out]
    exact HCt.out.otherCs (k := k) (l := zs ++ [⟨m, 0, (L.sn.length : Int) - 1⟩]) HQ.out (hgrow.trans ((grown_of_below hwz).but _)) (by simpa [Cl.cells] using own_below hown' hwz) (hat.imp id fun h b hb => by rw [h] at hb; cases hb; omega) (by decide) (by decide) (by decide) (by decide) (by decide) (by decide) (by decide))
  have XB2 := Lib.hid XB2
  have hb := up_put (up_later hbz hwz) (p := ⟨b3, k, none⟩) hlo.1 (.slice (some ⟨g', 0, none⟩) (zs.length + 1) cap')
  clear cX hgrow hown' hat hv hc3 hf3 h3 hwt hwz hbz XB bx bw HCt HZO HZt HC1 hb0 HCP HCB n_XB n_bx n_bw hrow
  have HB := Lib.hid (up_later HB.out hb)
  have HT := Lib.hid (HT.out.kept hb)
  have BX := Lib.hid (BX.out.kept hb)
  have BW := Lib.hid (BW.out.kept hb)
  clear hb
  refine (Lfault_any _ _ _ _ X _ _ (HX.out.land (by omega) (by omega) (by omega) (by omega) HXL.out)).mono ?_
  rintro e y3 ⟨rfl, hb⟩
  have HB := Lib.hid (up_later HB.out hb)
  have HT := Lib.hid (HT.out.kept hb)
  have BX := Lib.hid (BX.out.kept hb)
  have BW := Lib.hid (BW.out.kept hb)
  have XB2 := Lib.hid (XB2.out.kept hb)
  have HX := Lib.hid (HX.out.kept hb)
  clear hb
  by_cases he2 : errI X = 0
  · rw [he2]
    have HW := Lib.hid (HWX.out he2)
    clear he2
    have BB := XB2.out
    have cB := fun i => BB.cell i
    go_wp2_with fail
    clear cB BB
    refine (Land_any _ _ _ _ X _ _ (HX.out.land (by omega) (by omega) (by omega) (by omega) HXL.out)).mono ?_
    rintro e ya ⟨a1, a2, a3, a4, ca, rfl, hl, hb⟩
    have Hl := Lib.hid hl
    clear hl HX XB2
    have HB := Lib.hid (up_later HB.out hb)
    have HT := Lib.hid (HT.out.kept hb)
    have BX := Lib.hid (BX.out.kept hb)
    have BW := Lib.hid (BW.out.kept hb)
    clear hb
    go_wp2_with fail
    have AA := Walls_any _ _ _ _ X _ i j k 0 ya Hl.out
    rw [HW.out] at AA
    refine AA.mono ?_
    rintro e yb ⟨r1, r2, rfl, hp, hq, hb⟩
    obtain ⟨_, Ap, pp, rfl, _, _⟩ := hp.form
    obtain ⟨_, Aq, pq, rfl, _, _⟩ := hq.form
    have HQ2 := Lib.hid hq
    clear AA Hl hp hq
    have HB := Lib.hid (up_later HB.out hb)
    have HT := Lib.hid (HT.out.kept hb)
    have BX := Lib.hid (BX.out.kept hb)
    have BW := Lib.hid (BW.out.kept hb)
    clear hb
    go_wp2_with fail
    have bx := BX.out
    apply wp_region_by 28 [(Fact.eq _), (Fact.eq _), (Fact.eq _), (Fact.eq _), (Fact.eq _), (Fact.eq _), (Fact.eq _), (Fact.eq _), (Fact.eq _), (Fact.eq _), (Fact.eq _), (Fact.eq _), (Fact.eq _), (Fact.eq _), (Fact.eq _), (Fact.eq _), (Fact.eq _), (Fact.eq _), (Fact.eq _), (Fact.eq _), (Fact.eq _), (Fact.eq _), (Fact.eq _), (Fact.eq _), (Fact.eq _), (Fact.eq _), (Fact.eq _), (Fact.eq _)]
    case hm => kernel_rfl
    case hB => kernel_rfl
    case hA => (intro vs; simp only [List.take_succ_cons, List.take_zero, putAll, if_true, Act.put, List.setIfInBounds_toArray, List.set_cons_zero, List.set_cons_succ]; exact rfl)
    case hstep =>
      intro vs
      refine And.intro (fun w hw hd => ?_) ?_
      · refine ite_yes rfl ?_
        simp only [Gives]
        go_simp
        exact ⟨Below.refl _ _, rfl, fun h => by cases h⟩
      refine And.intro (fun w hw hd => ?_) ?_
      · have d0 := hd 0 (by decide) rfl
        change vs 0 = _ at d0
        refine ite_yes rfl ?_
        have c_bx := fun i => (bx.kept hw).cell i
        simp only [Gives]
        go_simp
        exact ⟨Below.refl _ _, rfl, fun h => by cases h⟩
      refine And.intro (fun w hw hd => ?_) ?_
      · refine ite_yes rfl ?_
        simp only [Gives]
        go_simp
        exact ⟨Below.refl _ _, rfl, fun h => by cases h⟩
      refine And.intro (fun w hw hd => ?_) ?_
      · have d1 := hd 1 (by decide) rfl
        change vs 1 = _ at d1
        have d2 := hd 2 (by decide) rfl
        change vs 2 = _ at d2
        refine ite_yes rfl ?_
        simp only [Gives]
        go_simp
        exact ⟨Below.refl _ _, rfl, fun h => by cases h⟩
      refine And.intro (fun w hw hd => ?_) ?_
      · have d3 := hd 3 (by decide) rfl
        change vs 3 = _ at d3
        refine ite_yes rfl ?_
        simp only [Gives]
        go_simp
        exact ⟨Below.refl _ _, rfl, fun h => by cases h⟩
      refine And.intro (fun w hw hd => ?_) ?_
      · have d4 := hd 4 (by decide) rfl
        change vs 4 = _ at d4
        refine ite_yes rfl ?_
        have c_bx := fun i => (bx.kept hw).cell i
        have q0 : w.cell? ⟨ba, oa + i * 4 + 2, none⟩ = some (.int .i64 s1.z) := (HT.out.kept hw).st.cellAt HS1.out (j := 2) rfl
        have q1 : w.cell? ⟨ba, oa + j * 4 + 2, none⟩ = some (.int .i64 s2.z) := (HT.out.kept hw).st.cellAt HS2.out (j := 2) rfl
        simp only [Gives]
        go_simp
        exact ⟨Below.refl _ _, rfl, fun h => by cases h⟩
      refine And.intro (fun w hw hd => ?_) ?_
      · refine ite_yes rfl ?_
        simp only [Gives]
        go_simp
        exact ⟨Below.refl _ _, rfl, fun h => by cases h⟩
      refine And.intro (fun w hw hd => ?_) ?_
      · have d6 := hd 6 (by decide) rfl
        change vs 6 = _ at d6
        refine ite_yes rfl ?_
        have c_bx := fun i => (bx.kept hw).cell i
        simp only [Gives]
        go_simp
        exact ⟨Below.refl _ _, rfl, fun h => by cases h⟩
      refine And.intro (fun w hw hd => ?_) ?_
      · refine ite_yes rfl ?_
        simp only [Gives]
        go_simp
        exact ⟨Below.refl _ _, rfl, fun h => by cases h⟩
      refine And.intro (fun w hw hd => ?_) ?_
      · have d7 := hd 7 (by decide) rfl
        change vs 7 = _ at d7
        have d8 := hd 8 (by decide) rfl
        change vs 8 = _ at d8
        refine ite_yes rfl ?_
        simp only [Gives]
        go_simp
        exact ⟨Below.refl _ _, rfl, fun h => by cases h⟩
      refine And.intro (fun w hw hd => ?_) ?_
      · have d9 := hd 9 (by decide) rfl
        change vs 9 = _ at d9
        refine ite_yes rfl ?_
        simp only [Gives]
        go_simp
        exact ⟨Below.refl _ _, rfl, fun h => by cases h⟩
      refine And.intro (fun w hw hd => ?_) ?_
      · have d10 := hd 10 (by decide) rfl
        change vs 10 = _ at d10
        refine ite_yes rfl ?_
        have c_bx := fun i => (bx.kept hw).cell i
        have q0 : w.cell? ⟨ba, oa + i * 4 + 2, none⟩ = some (.int .i64 s1.z) := (HT.out.kept hw).st.cellAt HS1.out (j := 2) rfl
        have q1 : w.cell? ⟨ba, oa + j * 4 + 2, none⟩ = some (.int .i64 s2.z) := (HT.out.kept hw).st.cellAt HS2.out (j := 2) rfl
        simp only [Gives]
        go_simp
        exact ⟨Below.refl _ _, rfl, fun h => by cases h⟩
      refine And.intro (fun w hw hd => ?_) ?_
      · have d5 := hd 5 (by decide) rfl
        change vs 5 = _ at d5
        have d11 := hd 11 (by decide) rfl
        change vs 11 = _ at d11
        refine ite_yes rfl ?_
        simp only [Gives]
        go_simp
        exact ⟨Below.refl _ _, rfl, fun h => by cases h⟩
      refine And.intro (fun w hw hd => ?_) ?_
      · refine ite_yes rfl ?_
        simp only [Gives]
        go_simp
        exact ⟨Below.refl _ _, rfl, fun h => by cases h⟩
      refine And.intro (fun w hw hd => ?_) ?_
      · have d13 := hd 13 (by decide) rfl
        change vs 13 = _ at d13
        refine ite_yes rfl ?_
        have c_bx := fun i => (bx.kept hw).cell i
        simp only [Gives]
        go_simp
        exact ⟨Below.refl _ _, rfl, fun h => by cases h⟩
      refine And.intro (fun w hw hd => ?_) ?_
      · refine ite_yes rfl ?_
        simp only [Gives]
        go_simp
        exact ⟨Below.refl _ _, rfl, fun h => by cases h⟩
      refine And.intro (fun w hw hd => ?_) ?_
      · have d14 := hd 14 (by decide) rfl
        change vs 14 = _ at d14
        have d15 := hd 15 (by decide) rfl
        change vs 15 = _ at d15
        refine ite_yes rfl ?_
        simp only [Gives]
        go_simp
        exact ⟨Below.refl _ _, rfl, fun h => by cases h⟩
      refine And.intro (fun w hw hd => ?_) ?_
      · have d16 := hd 16 (by decide) rfl
        change vs 16 = _ at d16
        refine ite_yes rfl ?_
        simp only [Gives]
        go_simp
        exact ⟨Below.refl _ _, rfl, fun h => by cases h⟩
      refine And.intro (fun w hw hd => ?_) ?_
      · have d17 := hd 17 (by decide) rfl
        change vs 17 = _ at d17
        refine ite_yes rfl ?_
        have c_bx := fun i => (bx.kept hw).cell i
        have q0 : w.cell? ⟨ba, oa + i * 4 + 2, none⟩ = some (.int .i64 s1.z) := (HT.out.kept hw).st.cellAt HS1.out (j := 2) rfl
        have q1 : w.cell? ⟨ba, oa + j * 4 + 2, none⟩ = some (.int .i64 s2.z) := (HT.out.kept hw).st.cellAt HS2.out (j := 2) rfl
        simp only [Gives]
        go_simp
        exact ⟨Below.refl _ _, rfl, fun h => by cases h⟩
      refine And.intro (fun w hw hd => ?_) ?_
      · refine ite_yes rfl ?_
        simp only [Gives]
        go_simp
        exact ⟨Below.refl _ _, rfl, fun h => by cases h⟩
      refine And.intro (fun w hw hd => ?_) ?_
      · have d19 := hd 19 (by decide) rfl
        change vs 19 = _ at d19
        refine ite_yes rfl ?_
        have c_bx := fun i => (bx.kept hw).cell i
        simp only [Gives]
        go_simp
        exact ⟨Below.refl _ _, rfl, fun h => by cases h⟩
      refine And.intro (fun w hw hd => ?_) ?_
      · refine ite_yes rfl ?_
        simp only [Gives]
        go_simp
        exact ⟨Below.refl _ _, rfl, fun h => by cases h⟩
      refine And.intro (fun w hw hd => ?_) ?_
      · have d20 := hd 20 (by decide) rfl
        change vs 20 = _ at d20
        have d21 := hd 21 (by decide) rfl
        change vs 21 = _ at d21
        refine ite_yes rfl ?_
        simp only [Gives]
        go_simp
        exact ⟨Below.refl _ _, rfl, fun h => by cases h⟩
      refine And.intro (fun w hw hd => ?_) ?_
      · have d22 := hd 22 (by decide) rfl
        change vs 22 = _ at d22
        refine ite_yes rfl ?_
        simp only [Gives]
        go_simp
        exact ⟨Below.refl _ _, rfl, fun h => by cases h⟩
      refine And.intro (fun w hw hd => ?_) ?_
      · have d23 := hd 23 (by decide) rfl
        change vs 23 = _ at d23
        refine ite_yes rfl ?_
        have c_bx := fun i => (bx.kept hw).cell i
        have q0 : w.cell? ⟨ba, oa + i * 4 + 2, none⟩ = some (.int .i64 s1.z) := (HT.out.kept hw).st.cellAt HS1.out (j := 2) rfl
        have q1 : w.cell? ⟨ba, oa + j * 4 + 2, none⟩ = some (.int .i64 s2.z) := (HT.out.kept hw).st.cellAt HS2.out (j := 2) rfl
        simp only [Gives]
        go_simp
        exact ⟨Below.refl _ _, rfl, fun h => by cases h⟩
      refine And.intro (fun w hw hd => ?_) ?_
      · have d18 := hd 18 (by decide) rfl
        change vs 18 = _ at d18
        have d24 := hd 24 (by decide) rfl
        change vs 24 = _ at d24
        refine ite_yes rfl ?_
        simp only [Gives]
        go_simp
        exact ⟨Below.refl _ _, rfl, fun h => by cases h⟩
      refine And.intro (fun w hw hd => ?_) ?_
      · have d12 := hd 12 (by decide) rfl
        change vs 12 = _ at d12
        refine ite_yes rfl ?_
        simp only [Gives]
        go_simp
        exact ⟨Below.refl _ _, rfl, fun h => by cases h⟩
      refine And.intro (fun w hw hd => ?_) ?_
      · have d25 := hd 25 (by decide) rfl
        change vs 25 = _ at d25
        refine ite_yes rfl ?_
        simp only [Gives]
        go_simp
        exact ⟨Below.refl _ _, rfl, fun h => by cases h⟩
      exact trivial
    intro vs wt hw hd hne hlo
    have d0 := hd 0 (by decide)
    change vs 0 = _ at d0
    have d1 := hd 1 (by decide)
    change vs 1 = _ at d1
    have d2 := hd 2 (by decide)
    change vs 2 = _ at d2
    have d3 := hd 3 (by decide)
    change vs 3 = _ at d3
    have d4 := hd 4 (by decide)
    change vs 4 = _ at d4
    have d5 := hd 5 (by decide)
    change vs 5 = _ at d5
    have d6 := hd 6 (by decide)
    change vs 6 = _ at d6
    have d7 := hd 7 (by decide)
    change vs 7 = _ at d7
    have d8 := hd 8 (by decide)
    change vs 8 = _ at d8
    have d9 := hd 9 (by decide)
    change vs 9 = _ at d9
    have d10 := hd 10 (by decide)
    change vs 10 = _ at d10
    have d11 := hd 11 (by decide)
    change vs 11 = _ at d11
    have d12 := hd 12 (by decide)
    change vs 12 = _ at d12
    have d13 := hd 13 (by decide)
    change vs 13 = _ at d13
    have d14 := hd 14 (by decide)
    change vs 14 = _ at d14
    have d15 := hd 15 (by decide)
    change vs 15 = _ at d15
    have d16 := hd 16 (by decide)
    change vs 16 = _ at d16
    have d17 := hd 17 (by decide)
    change vs 17 = _ at d17
    have d18 := hd 18 (by decide)
    change vs 18 = _ at d18
    have d19 := hd 19 (by decide)
    change vs 19 = _ at d19
    have d20 := hd 20 (by decide)
    change vs 20 = _ at d20
    have d21 := hd 21 (by decide)
    change vs 21 = _ at d21
    have d22 := hd 22 (by decide)
    change vs 22 = _ at d22
    have d23 := hd 23 (by decide)
    change vs 23 = _ at d23
    have d24 := hd 24 (by decide)
    change vs 24 = _ at d24
    have d25 := hd 25 (by decide)
    change vs 25 = _ at d25
    have d26 := hd 26 (by decide)
    change vs 26 = _ at d26
    have d27 := hd 27 (by decide)
    change vs 27 = _ at d27
    simp only [d0, d1, d2, d3, d4, d5, d6, d7, d8, d9, d10, d11, d12, d13, d14, d15, d16, d17, d18, d19, d20, d21, d22, d23, d24, d25, d26, d27, List.drop_succ_cons, List.drop_nil]
    have bx := bx.kept hw
    have c_bx := fun i => bx.cell i
    have f_bx := fun i => bx.free i
    clear hd hne hlo d0 d1 d2 d3 d4 d5 d6 d7 d8 d9 d10 d11 d12 d13 d14 d15 d16 d17 d18 d19 d20 d21 d22 d23 d24 d25 d26 d27
    simp only [E1.out, E2.out]
    have hb := hw
    clear bx c_bx f_bx hw
    have HB := Lib.hid (up_later HB.out hb)
    have HT := Lib.hid (HT.out.kept hb)
    have BX := Lib.hid (BX.out.kept hb)
    have BW := Lib.hid (BW.out.kept hb)
    have HQ2 := Lib.hid (HQ2.out.kept hb)
    clear hb
    have q4 : wt.cell? ⟨b4, o4 + k, none⟩ = some (.slice Ac zs.length pc) := by simpa using HT.out.cs.cellAt HCK.out (j := 0) rfl
    have BB := BX.out
    have cB := fun i => BB.cell i
    go_wp2_with fail
    clear cB BB
    clear q4
    have hr1 := ints_row1 (w := wt.alloc (.cells #[iv zs.length] 3)) (g := wt.heap.size) (a := zs.length) (Box.new rfl)
    have hb := up_alloc (up0 (w := wt)) (.cells #[iv zs.length] 3)
    have HB := Lib.hid (up_later HB.out hb)
    have BW := Lib.hid (BW.out.kept hb)
    have HQ2 := Lib.hid (HQ2.out.kept hb)
    clear hb
    refine (within_any _ _ _ _ _ hr1 HQ2.out).mono ?_
    rintro e yd ⟨rfl, hb⟩
    rw [HH.out]
    clear HQ2 hr1
    have HB := Lib.hid (up_later HB.out hb)
    have BW := Lib.hid (BW.out.kept hb)
    clear hb
    cases hbk : blocksW s1 s2 m with
    | false =>
      go_wp2_with fail
      refine (awake_any _).mono ?_
      rintro e y9 ⟨rfl, hb⟩
      go_wp2_with fail
      go_ret
      exact ⟨by simp [go_sem], up_later HB.out hb⟩
    | true =>
      obtain ⟨g1, g2⟩ := block_between hbk
      have g3 : lo ≤ m.t := by omega
      have g4 : m.b ≤ hi := by omega
      clear g1 g2
      have BB := BW.out
      have cB := fun i => BB.cell i
      go_wp2_with fail
      clear cB BB
      refine (awake_any _).mono ?_
      rintro e y9 ⟨rfl, hb⟩
      go_wp2_with fail
      go_ret
      exact ⟨by simp [go_sem], up_later HB.out hb⟩
  · have hne : (errI X != 0) = true := by simpa using he2
    go_wp2_with fail
    refine (awake_any _).mono ?_
    rintro e y9 ⟨rfl, hb⟩
    go_wp2_with fail
    go_ret
    exact ⟨by simp [go_sem], up_later HB.out hb⟩

end Go.Proofs.Ytlnagjdokfkjoaa

namespace Go.Proofs.Ytlnagjdokfkjoaa
open Go.ChangeShapes Go.WideShapes Go.ChangeAt Go.RowKit

set_option maxRecDepth 100000 in
theorem hillOver_lifted (os : Os) (started : os.Started) (H : Type) (enc : TypeId × Value → H) :
    ReturnsInHanded {} Try.checked os 13 .any (Rows.hillOverSpec.pre6 enc Try.prog Try.f13 Rows.hillOverRow.domain false) (Rows.hillOverSpec.post enc Try.prog Try.f13 false true false false) := by
  refine returnsInHanded_of_change (C := Try.checked) own_knob started (by kernel_rfl) Try.func13
    (ChangeSpec.witness6 (enc := enc) (C := Try.checked) false ⟨#[], #[.agg #[.slice Option.none 0 0, .slice Option.none 0 0, .slice Option.none 0 0, .slice Option.none 0 0], .int .u8 0, .int .u8 0, .agg #[.int .i64 0, .int .i64 0, .int .i64 0, .int .i64 0, .int .i64 0, .int .i64 0]], []⟩ 8 (by kernel_rfl) (by kernel_rfl) (by kernel_rfl) (by kernel_rfl)) ?_
  intro W base args ds gs before hval0 hW hcnd _
  have hval : ∀ (j : Nat) t v, Try.f13.params[j]? = some t → args[j]? = some v → Value.okWide Try.prog W .any base t v := hval0
  have hW' := hW
  obtain ⟨p, q, hA0, hV, rfl, hfz, hnd⟩ := hW
  have hA : DataW.TrodAll enc Try.prog W 0 (fun _ => true) true Try.f13.params.toList args.toList ds p := hA0
  rw [Try.params13] at hA hval
  have hlt : ∀ x ∈ p, x.block < W.heap.size := fun x hx => hW'.lt x (List.mem_append_left _ hx)
  have hAk := hA
  obtain ⟨v0, vs0, d0, ds0, p0, q0, hargs, rfl, rfl, h0, r0⟩ := trodAll_cons hA
  obtain ⟨v1, vs1, d1, ds1, p1, q1, rfl, rfl, rfl, h1, r1⟩ := trodAll_cons r0
  obtain ⟨v2, vs2, d2, ds2, p2, q2, rfl, rfl, rfl, h2, r2⟩ := trodAll_cons r1
  obtain ⟨v3, vs3, d3, ds3, p3, q3, rfl, rfl, rfl, h3, r3⟩ := trodAll_cons r2
  obtain ⟨rfl, rfl, rfl⟩ := trodAll_nil r3
  obtain rfl : args = #[v0, v1, v2, v3] := by cases args; simp_all
  obtain ⟨rfl, rfl⟩ := trodVars_none hV
  obtain ⟨a1, rfl, rfl, rfl, w1⟩ := open_int Try.underlying5 (hval 1 5 v1 rfl rfl) h1
  obtain ⟨a2, rfl, rfl, rfl, w2⟩ := open_int Try.underlying5 (hval 2 5 v2 rfl rfl) h2
  obtain ⟨cs3, rfl, _⟩ := okWide_struct und79 (hval 3 79 v3 rfl rfl)
  obtain ⟨fuel3, h3⟩ := h3
  obtain ⟨x3, hx3, _⟩ := open_wl h3
  obtain rfl : cs3 = #[iv x3.x1, iv x3.y1, iv x3.x2, iv x3.y2, iv x3.b, iv x3.t] := by
    have h : cs3.toList = x3.cells := hx3
    cases cs3
    simp [Wl.cells] at h
    rw [h]
  obtain ⟨cs, rfl, _⟩ := okWide_struct und27 (hval 0 27 v0 rfl rfl)
  obtain ⟨fuel, h0⟩ := h0
  obtain ⟨u1, u2, u3, u4, L, c, hcs, hL⟩ := open_land h0
  obtain rfl : cs = #[u1, u2, u3, u4] := by
    have h : cs.toList = [u1, u2, u3, u4] := hcs
    cases cs
    simp at h
    rw [h]
  clear hA0 hval0 hval hA
  simp only [List.append_nil] at hW'
  simp only [List.append_nil] at hAk hlt
  refine (over_law u1 u2 u3 u4 L c a1 a2 x3 W hL (bounds_u8 w1) (bounds_u8 w2)).mono fun e W' ⟨he, hg⟩ => ?_
  subst he
  refine ⟨_, rfl, post_below (pv := []) hW' hg (fun _ _ _ => (trodAll_cons_mk (shut_bool Try.underlying4 _) trodAll_mk0)) (fun sp hsp => ?_) (fun _ _ => rfl) (List.append_nil _).symm
    (ok_one (by kernel_rfl) rfl (okWide_bool_mk Try.underlying4 _))⟩
  rw [Try.params13]
  refine args_stay laid_out hg (fun t ht => ?_) hAk hlt sp (fun x hx => hsp x (by first | exact hx | simpa using hx))
  simp only [List.mem_cons, List.not_mem_nil, or_false] at ht
  rcases ht with rfl | rfl | rfl | rfl
  · exact rec27
  · exact rec5
  · exact rec5
  · exact rec79

theorem hillOver_over : Rows.hillOverRow.holds Try.pinned (OpenSpec.ofChange Rows.hillOverSpec) :=
  OpenClaim.holds_of_wide 13 Try.f13 rfl rfl rfl rfl rfl rfl rfl ⟨rfl, rfl, rfl, rfl, rfl⟩ rfl rfl rfl rfl rfl (by kernel_rfl) Try.func13 (by kernel_rfl)
    (of_decide_eq_true (by kernel_rfl)) (by unfold Func.isWrapper; first | (rw [if_pos (by decide +kernel)]; kernel_rfl) | (rw [if_neg (by decide +kernel)]; exact ⟨rfl, rfl⟩))
    (fun os started H enc _ => hillOver_lifted os started H enc)

theorem HillOver_holds : Rows.HillOverSaid := hillOver_over

end Go.Proofs.Ytlnagjdokfkjoaa
