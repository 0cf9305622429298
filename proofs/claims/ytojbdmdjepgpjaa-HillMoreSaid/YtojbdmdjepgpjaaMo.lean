/-
  HillMore holds: with one more ridge, or one more cloud, there is no hour more at which a station can flash; in a case without clouds it can at each hour at which it can in any case. No condition.
-/
import Derived.Test.YtojbdmdjepgpjaaMe
import Derived.Test.YtojbdmdjepgpjaaUp
import Derived.Test.YtojbdmdjepgpjaaVi
namespace Go.Proofs.Ytojbdmdjepgpjaa
open Go.RowKit

section
variable {L : Ld} {w W : World} {u1 u2 u3 u4 : Value} {c : List (Value × List Cl)} {n0 g : Nat} {cs : Array Value}
theorem put4_only (w : World) (g : Nat) (a b c d : Value) : Only g w ((((w.setCell ⟨g, 0, none⟩ a).setCell ⟨g, 1, none⟩ b).setCell ⟨g, 2, none⟩ c).setCell ⟨g, 3, none⟩ d) :=
  (((Only.set _ _ _ _).trans (Only.set _ _ _ _)).trans (Only.set _ _ _ _)).trans (Only.set _ _ _ _)
theorem up_put4 (h : Below w.heap.size w W) (hg : w.heap.size ≤ g) (a b c d : Value) : Below w.heap.size w ((((W.setCell ⟨g, 0, none⟩ a).setCell ⟨g, 1, none⟩ b).setCell ⟨g, 2, none⟩ c).setCell ⟨g, 3, none⟩ d) :=
  up_put (up_put (up_put (up_put h (p := ⟨g, 0, none⟩) hg _) (p := ⟨g, 1, none⟩) hg _) (p := ⟨g, 2, none⟩) hg _) (p := ⟨g, 3, none⟩) hg _
theorem Cop.put4 (h : Cop 74 79 80 60 82 n0 L w u1 u2 u3 u4 c) (hb : Box w g 27 cs) (a b e d : Value) :
    Cop 74 79 80 60 82 n0 L ((((w.setCell ⟨g, 0, none⟩ a).setCell ⟨g, 1, none⟩ b).setCell ⟨g, 2, none⟩ e).setCell ⟨g, 3, none⟩ d) u1 u2 u3 u4 c :=
  (((h.set hb).set (hb.put 0 a)).set ((hb.put 0 a).put 1 b)).set (((hb.put 0 a).put 1 b).put 2 e)
end


set_option maxRecDepth 100000 in
set_option maxHeartbeats 6000000 in
theorem more_law (v1 v2 v3 v4 : Value) (L : Ld) (c : List (Value × List Cl)) (x y : Int) (m : Wl) (z v : Int) (w : World) (hL : LandAny w v1 v2 v3 v4 L c) (hx : 0 ≤ x ∧ x ≤ 255) (hy : 0 ≤ y ∧ y ≤ 255) (hz : 0 ≤ z ∧ z ≤ 255) (hv : 0 ≤ v ∧ v ≤ 255) :
    Calls Try.prog 10 #[.agg #[v1, v2, v3, v4], .int .u8 x, .int .u8 y, .agg #[iv m.x1, iv m.y1, iv m.x2, iv m.y2, iv m.b, iv m.t], .int .u8 z, .int .u8 v] w fun e w' => e = .returned (.bool true) ∧ Below w.heap.size w w' := by
  obtain ⟨hy0, hy1⟩ := hy
  obtain ⟨hz0, hz1⟩ := hz
  obtain ⟨hv0, hv1⟩ := hv
  obtain ⟨i2, hi2, hz20, hz21, hz22⟩ := info_parts info79
  obtain ⟨i5, hi5, hz50, hz51, hz52⟩ := info_parts info82
  have HA := Lib.hid hL
  obtain ⟨A1, cap1, rfl, _, _⟩ := hL.st.form
  obtain ⟨A2, cap2, rfl, _, _⟩ := hL.rg.form
  obtain ⟨A3, cap3, rfl, _, _⟩ := hL.cs.form
  obtain ⟨A4, cap4, rfl, _, _⟩ := hL.sn.form
  have Hcl := Lib.hid (show c.length = L.cs.length by rw [← hL.eq]; simp)
  clear hL
  cases hr : readyB L
  case false =>
    have Hr := Lib.hid hr
    clear hr
    go_enter Try.func10, Try.ntmps10
    go_wp2_with fail
    refine (Lready_any _ _ _ _ L c _ (HA.out.kept (up_alloc (up_alloc up0 _) _))).mono ?_
    rintro e y0 ⟨rfl, hb⟩
    rw [Hr.out]
    go_wp2_with fail
    refine (awake_any _).mono ?_
    rintro e y1 ⟨rfl, hb2⟩
    go_wp2_with fail
    go_ret
    exact ⟨rfl, up_later (up_later (up_alloc (up_alloc up0 _) _) hb) hb2⟩
  have hq := hr
  simp only [readyB, Bool.and_eq_true, beq_iff_eq, decide_eq_true_eq] at hq
  obtain ⟨⟨hth, he⟩, h1n⟩ := hq
  have hT := HA.out.thin hth
  have hok := land_ok he
  obtain ⟨_, hl6, hg6, hc0, hc4, hs0, hs12⟩ := hok.len
  have hcl := Hcl.out
  obtain ⟨i, hi, hin⟩ := nat_mod (x := x) (n := L.st.length) (by omega)
  obtain ⟨j, hj, hjn⟩ := nat_mod (x := x % (L.st.length : Int) + 1 + x / 8 % ((L.st.length : Int) - 1)) (n := L.st.length) (by omega)
  have hij : i ≠ j := by
    have h := mod_ne (n := (L.st.length : Int)) (x := x) (by omega)
    rw [hi] at h hj
    rw [hj] at h
    omega
  have o1 : ∀ k h : Nat, k < L.cs.length → h < L.sn.length → openI L k h [(i : Int), (j : Int)] = 0 := fun k h hk hh => open_zero he hin hjn hk hh hij
  have Hr := Lib.hid hr
  have HT0 := Lib.hid hT
  have Hpi := Lib.hid (show (pairI (L.st.length : Int) x).1 = i from hi)
  have Hpj := Lib.hid (show (pairI (L.st.length : Int) x).2 = j from hj)
  have hn1 : L.st.length ≤ 1000 := by omega
  have i0 : (0 : Int) ≤ (i : Int) := by omega
  have i1 : (i : Int) < (L.st.length : Int) := by omega
  have j0 : (0 : Int) ≤ (j : Int) := by omega
  have j1 : (j : Int) < (L.st.length : Int) := by omega
  have He := Lib.hid he
  have Hok := Lib.hid hok
  obtain ⟨k, hk, hkn⟩ := nat_mod (x := y) (n := c.length) (by omega)
  have hkc : k < L.cs.length := by omega
  have Hk := Lib.hid hk
  have cz : ¬ (c.length : Int) = 0 := by omega
  have cz' : ((c.length : Int) == 0) = false := by rw [beq_eq_false_iff_ne]; omega
  have k0 : (0 : Int) ≤ (k : Int) := by omega
  have k1 : (k : Int) < (c.length : Int) := by omega
  obtain ⟨t, ht, htn⟩ := nat_mod (x := z) (n := L.sn.length) (by omega)
  have Ht := Lib.hid ht
  have sz : ¬ (L.sn.length : Int) = 0 := by omega
  have sz' : ((L.sn.length : Int) == 0) = false := by rw [beq_eq_false_iff_ne]; omega
  have t0 : (0 : Int) ≤ (t : Int) := by omega
  have t1 : (t : Int) < (L.sn.length : Int) := by omega
  obtain ⟨g, hg, hgn⟩ := nat_mod (x := v) (n := L.sn.length - t) (by omega)
  have hcast : ((L.sn.length - t : Nat) : Int) = (L.sn.length : Int) - (t : Int) := by omega
  rw [hcast] at hg
  obtain ⟨zs, hzs⟩ : ∃ s, L.cs[k]? = some s := ⟨_, List.getElem?_eq_getElem hkc⟩
  have HZ := Lib.hid hzs
  have Hkc := Lib.hid hkc
  obtain ⟨X, hX⟩ : ∃ X, X = addRg L ⟨m.x1, m.y1, m.x2, m.y2, 0, m.t⟩ := ⟨_, rfl⟩
  obtain ⟨Y, hY⟩ : ∃ X, X = setCs L k (zs ++ [⟨⟨m.x1, m.y1, m.x2, m.y2, 0, m.t⟩, (t : Int), (t : Int) + (g : Int)⟩]) := ⟨_, rfl⟩
  obtain ⟨Z, hZ⟩ : ∃ X, X = setCs L k [] := ⟨_, rfl⟩
  have HEX := Lib.hid hX
  have HEY := Lib.hid hY
  have HEZ := Lib.hid hZ
  have hX1 : X.st.length = L.st.length := by rw [hX]; rfl
  have hX2 : X.rg.length = L.rg.length + 1 := by rw [hX]; simp [addRg]
  have hX3 : X.cs.length = L.cs.length := by rw [hX]; rfl
  have hX4 : X.sn.length = L.sn.length := by rw [hX]; rfl
  have hY1 : Y.st.length = L.st.length := by rw [hY]; rfl
  have hY2 : Y.rg.length = L.rg.length := by rw [hY]; rfl
  have hY3 : Y.cs.length = L.cs.length := by rw [hY]; simp [setCs]
  have hY4 : Y.sn.length = L.sn.length := by rw [hY]; rfl
  have hZ1 : Z.st.length = L.st.length := by rw [hZ]; rfl
  have hZ2 : Z.rg.length = L.rg.length := by rw [hZ]; rfl
  have hZ3 : Z.cs.length = L.cs.length := by rw [hZ]; simp [setCs]
  have hZ4 : Z.sn.length = L.sn.length := by rw [hZ]; rfl
  have HXL := Lib.hid (show ∀ x ∈ X.cs, x.length ≤ 1000 by rw [hX]; exact fun x hx => lens hT x hx)
  have HYL := Lib.hid (show ∀ x ∈ Y.cs, x.length ≤ 1000 by
    rw [hY]
    exact len_other he (by have := case_len he zs (List.mem_of_getElem? hzs); simp; omega))
  have HZL := Lib.hid (show ∀ x ∈ Z.cs, x.length ≤ 1000 by
    rw [hZ]
    exact len_other he (by simp))
  obtain ⟨lh, hlh⟩ : ∃ l : Nat → List Int, l = fun q : Nat => uptoF (fun h => freeB L i j (q : Int) h) L.sn.length := ⟨_, rfl⟩
  have HHL := Lib.hid (show ∀ q : Nat, q < L.cs.length → hoursE L i j q = (lh q, 0) from fun q hq => by
    rw [hlh]
    exact hours_ok (o1 q 0 hq (by omega)))
  obtain ⟨lz, hlz⟩ : ∃ l : List Int, l = uptoF (fun h => freeB Z i j k h) Z.sn.length := ⟨_, rfl⟩
  have heZ : errI Z = 0 := by rw [hZ]; exact err_case (by simp) rfl he
  have HHZ := Lib.hid (show hoursE Z i j k = (lz, 0) by
    rw [hlz]
    exact hours_ok (open_zero heZ (by omega) (by omega) (by omega) (by omega) hij))
  have HWZ := Lib.hid (show ∀ q : Nat, q < L.cs.length → withinB (lh q) lz = true from fun q hq => by
    rw [hlh, hlz, hZ4, hZ]
    exact within_upto fun h _ hf => free_none hkc hf)
  obtain ⟨lx, hlx⟩ : ∃ l : List Int, l = uptoF (fun h => freeB X i j k h) X.sn.length := ⟨_, rfl⟩
  have HHX := Lib.hid (show errI X = 0 → hoursE X i j k = (lx, 0) ∧ withinB lx (lh k) = true from fun he3 => by
    refine ⟨?_, ?_⟩
    · rw [hlx]
      exact hours_ok (open_zero he3 (by omega) (by omega) (by omega) (by omega) hij)
    · rw [hlh, hlx, hX4, hX]
      exact within_upto fun h _ hf => free_ridge hf)
  obtain ⟨ly, hly⟩ : ∃ l : List Int, l = uptoF (fun h => freeB Y i j k h) Y.sn.length := ⟨_, rfl⟩
  have HHY := Lib.hid (show errI Y = 0 → hoursE Y i j k = (ly, 0) ∧ withinB ly (lh k) = true from fun he3 => by
    refine ⟨?_, ?_⟩
    · rw [hly]
      exact hours_ok (open_zero he3 (by omega) (by omega) (by omega) (by omega) hij)
    · rw [hlh, hly, hY4, hY]
      exact within_upto fun h _ hf => free_cloud hzs hf)
  have hzl : zs.length ≤ 1000 := lens hT zs (List.mem_of_getElem? hzs)
  have hcl1 : c.length ≤ 1000 := hT.cs.form.1
  have hlen := Lib.hid (lens hT)
  have k2 : (k : Int) < (L.cs.length : Int) := by omega
  have K1 : IntKind.i64.wrap ((L.sn.length : Int) - (t : Int)) = (L.sn.length : Int) - (t : Int) := wrapK_in _ 2000 (by omega) (by omega)
  have K2 : IntKind.i64.wrap ((t : Int) + (g : Int)) = (t : Int) + (g : Int) := wrapK_in _ 2000 (by omega) (by omega)
  have K3 : ¬ (L.sn.length : Int) - (t : Int) = 0 := by omega
  have K4 : ((L.sn.length : Int) - (t : Int) == 0) = false := by rw [beq_eq_false_iff_ne]; exact K3
  have K5 : v.tmod ((L.sn.length : Int) - (t : Int)) = (g : Int) := by rw [Int.tmod_eq_emod_of_nonneg hv0]; exact hg
  have KW : IntKind.i64.wrap (g : Int) = (g : Int) := wrapK_in _ 2000 (by omega) (by omega)
  have KV : IntKind.i64.wrap v = v := wrapK_in _ 2000 (by omega) (by omega)
  have Hij := Lib.hid hij
  have Hin := Lib.hid hin
  have Hjn := Lib.hid hjn
  have Hs0 := Lib.hid hs0
  have HG := Lib.hid hg
  have Hgn := Lib.hid hgn
  clear hr hT hok hi hj hk hth he hcl hzs hkc hcl1 hX hY hZ hlh hlz hlx hly heZ ht hcast
  go_enter Try.func10, Try.ntmps10
  go_wp2_with fail
  have BX := Lib.hid ((Box.new (w := w) (t := 27) (cs := #[.slice A1 L.st.length cap1, .slice A2 L.rg.length cap2, .slice A3 c.length cap3, .slice A4 L.sn.length cap4]) rfl).alloc (.cells #[iv m.x1, iv m.y1, iv m.x2, iv m.y2, iv m.b, iv m.t] 79))
  have BW := Lib.hid (Box.new (w := w.alloc (.cells #[.slice A1 L.st.length cap1, .slice A2 L.rg.length cap2, .slice A3 c.length cap3, .slice A4 L.sn.length cap4] 27)) (g := w.heap.size + 1) (t := 79) (cs := #[iv m.x1, iv m.y1, iv m.x2, iv m.y2, iv m.b, iv m.t]) (by simp))
  have HB := Lib.hid (up_alloc (up_alloc (up0 (w := w)) (.cells #[.slice A1 L.st.length cap1, .slice A2 L.rg.length cap2, .slice A3 c.length cap3, .slice A4 L.sn.length cap4] 27)) (.cells #[iv m.x1, iv m.y1, iv m.x2, iv m.y2, iv m.b, iv m.t] 79))
  have HT := Lib.hid (HT0.out.kept HB.out)
  refine (Lready_any _ _ _ _ L c _ (HA.out.kept HB.out)).mono ?_
  rintro e y0 ⟨rfl, hb⟩
  rw [Hr.out]
  have HB := Lib.hid (up_later HB.out hb)
  have HT := Lib.hid (HT.out.kept hb)
  have BX := Lib.hid (BX.out.kept hb)
  have BW := Lib.hid (BW.out.kept hb)
  clear hb
  have BB := BX.out
  have cB := fun i => BB.cell i
  go_wp2_with fail
  clear cB BB
  refine (Lpair_any _ L.st.length cap1 _ _ _ x _ h1n hn1 hx).mono ?_
  rintro e y1 ⟨rfl, hb⟩
  rw [Hpi.out, Hpj.out]
  have HB := Lib.hid (up_later HB.out hb)
  have HT := Lib.hid (HT.out.kept hb)
  have BX := Lib.hid (BX.out.kept hb)
  have BW := Lib.hid (BW.out.kept hb)
  clear hb
  have BB := BX.out
  have cB := fun i => BB.cell i
  go_wp2_with fail
  clear cB BB
  rw [Hk.out]
  have bx := BX.out
  have hlw := BW.out.lt
  apply wp_region_span 9 [(FactS.eq _), (FactS.cop L), (FactS.eq _), (FactS.cop L), (FactS.eq _), (FactS.cop L), (FactS.box 27 _), (FactS.box 27 _), (FactS.box 27 _)]
  case hm => kernel_rfl
  case hB => kernel_rfl
  case hA => (intro vs; simp only [List.take_succ_cons, List.take_zero, putAll, if_true, Act.put, List.setIfInBounds_toArray, List.set_cons_zero, List.set_cons_succ]; exact rfl)
  case hstep =>
    intro vs
    refine And.intro (fun w hw hd => ?_) ?_
    · refine ite_yes rfl ?_
      have c_bx := fun i => (bx.kept hw).cell i
      simp only [Gives]
      go_simp
      exact ⟨Below.refl _ _, rfl⟩
    refine And.intro (fun w hw hd => ?_) ?_
    · obtain ⟨lo0, hi0, d0⟩ := hd 0 (by decide) rfl
      change vs 0 = _ at d0
      refine ite_yes rfl ?_
      simp only [Gives]
      go_simp
      refine (copied_any _ _ _ _ L c _ (HT.out.kept hw)).mono ?_
      rintro e w1 ⟨u1, u2, u3, u4, cu, rfl, hcop, hb⟩
      exact ⟨_, rfl, hb, u1, u2, u3, u4, cu, rfl, hcop, hcop.lts, hb.size⟩
    refine And.intro (fun w hw hd => ?_) ?_
    · refine ite_yes rfl ?_
      have c_bx := fun i => (bx.kept hw).cell i
      simp only [Gives]
      go_simp
      exact ⟨Below.refl _ _, rfl⟩
    refine And.intro (fun w hw hd => ?_) ?_
    · obtain ⟨lo2, hi2, d2⟩ := hd 2 (by decide) rfl
      change vs 2 = _ at d2
      refine ite_yes rfl ?_
      simp only [Gives]
      go_simp
      refine (copied_any _ _ _ _ L c _ (HT.out.kept hw)).mono ?_
      rintro e w1 ⟨u1, u2, u3, u4, cu, rfl, hcop, hb⟩
      exact ⟨_, rfl, hb, u1, u2, u3, u4, cu, rfl, hcop, hcop.lts, hb.size⟩
    refine And.intro (fun w hw hd => ?_) ?_
    · refine ite_yes rfl ?_
      have c_bx := fun i => (bx.kept hw).cell i
      simp only [Gives]
      go_simp
      exact ⟨Below.refl _ _, rfl⟩
    refine And.intro (fun w hw hd => ?_) ?_
    · obtain ⟨lo4, hi4, d4⟩ := hd 4 (by decide) rfl
      change vs 4 = _ at d4
      refine ite_yes rfl ?_
      simp only [Gives]
      go_simp
      refine (copied_any _ _ _ _ L c _ (HT.out.kept hw)).mono ?_
      rintro e w1 ⟨u1, u2, u3, u4, cu, rfl, hcop, hb⟩
      exact ⟨_, rfl, hb, u1, u2, u3, u4, cu, rfl, hcop, hcop.lts, hb.size⟩
    refine And.intro (fun w hw hd => ?_) ?_
    · refine ite_yes rfl ?_
      simp only [Gives]
      go_simp
      exact ⟨(Below.refl _ _).alloc (Nat.le_refl _) _, rfl, Box.new rfl, by simp⟩
    refine And.intro (fun w hw hd => ?_) ?_
    · refine ite_yes rfl ?_
      simp only [Gives]
      go_simp
      exact ⟨(Below.refl _ _).alloc (Nat.le_refl _) _, rfl, Box.new rfl, by simp⟩
    refine And.intro (fun w hw hd => ?_) ?_
    · refine ite_yes rfl ?_
      simp only [Gives]
      go_simp
      exact ⟨(Below.refl _ _).alloc (Nat.le_refl _) _, rfl, Box.new rfl, by simp⟩
    exact trivial
  intro vs lo hi wt hI
  have hw := hI.below
  have d0 := hI.each 0 (by decide) rfl
  change vs 0 = _ at d0
  have d1 := hI.each 1 (by decide) rfl
  obtain ⟨x1, x2, x3, x4, cx, d1, X0, XL, Xh⟩ := d1
  have d2 := hI.each 2 (by decide) rfl
  change vs 2 = _ at d2
  have d3 := hI.each 3 (by decide) rfl
  obtain ⟨q1, q2, q3, q4, cq, d3, Q0, QL, Qh⟩ := d3
  have d4 := hI.each 4 (by decide) rfl
  change vs 4 = _ at d4
  have d5 := hI.each 5 (by decide) rfl
  obtain ⟨r1, r2, r3, r4, cr, d5, R0, RL, Rh⟩ := d5
  have d6 := hI.each 6 (by decide) rfl
  obtain ⟨d6, N6, K6⟩ := d6
  have d7 := hI.each 7 (by decide) rfl
  obtain ⟨d7, N7, K7⟩ := d7
  have d8 := hI.each 8 (by decide) rfl
  obtain ⟨d8, N8, K8⟩ := d8
  have s1 := hI.span 1 (by decide) rfl
  have s3 := hI.span 3 (by decide) rfl
  have s5 := hI.span 5 (by decide) rfl
  have s6 := hI.span 6 (by decide) rfl
  have s7 := hI.span 7 (by decide) rfl
  have s8 := hI.span 8 (by decide) rfl
  have a1_3 := hI.apart 1 3 (by decide) (by decide) (by decide) rfl rfl
  have a1_5 := hI.apart 1 5 (by decide) (by decide) (by decide) rfl rfl
  have a3_5 := hI.apart 3 5 (by decide) (by decide) (by decide) rfl rfl
  have a1_6 := hI.apart 1 6 (by decide) (by decide) (by decide) rfl rfl
  have a3_6 := hI.apart 3 6 (by decide) (by decide) (by decide) rfl rfl
  have a5_6 := hI.apart 5 6 (by decide) (by decide) (by decide) rfl rfl
  have a1_7 := hI.apart 1 7 (by decide) (by decide) (by decide) rfl rfl
  have a3_7 := hI.apart 3 7 (by decide) (by decide) (by decide) rfl rfl
  have a5_7 := hI.apart 5 7 (by decide) (by decide) (by decide) rfl rfl
  have a6_7 := hI.apart 6 7 (by decide) (by decide) (by decide) rfl rfl
  have a1_8 := hI.apart 1 8 (by decide) (by decide) (by decide) rfl rfl
  have a3_8 := hI.apart 3 8 (by decide) (by decide) (by decide) rfl rfl
  have a5_8 := hI.apart 5 8 (by decide) (by decide) (by decide) rfl rfl
  have a6_8 := hI.apart 6 8 (by decide) (by decide) (by decide) rfl rfl
  have a7_8 := hI.apart 7 8 (by decide) (by decide) (by decide) rfl rfl
  simp only [d0, d1, d2, d3, d4, d5, d6, d7, d8, List.drop_succ_cons, List.drop_zero]
  have bx := bx.kept hw
  clear hI d0 d1 d2 d3 d4 d5 d6 d7 d8
  obtain ⟨xa1, xm1, xp1, rfl⟩ := own_form X0.o1
  obtain ⟨xa2, xm2, xp2, rfl⟩ := own_form X0.o2
  obtain ⟨xa3, xm3, xp3, rfl⟩ := own_form X0.o3
  obtain ⟨xa4, xm4, xp4, rfl⟩ := own_form X0.o4
  obtain ⟨qa1, qm1, qp1, rfl⟩ := own_form Q0.o1
  obtain ⟨qa2, qm2, qp2, rfl⟩ := own_form Q0.o2
  obtain ⟨qa3, qm3, qp3, rfl⟩ := own_form Q0.o3
  obtain ⟨qa4, qm4, qp4, rfl⟩ := own_form Q0.o4
  obtain ⟨ra1, rm1, rp1, rfl⟩ := own_form R0.o1
  obtain ⟨ra2, rm2, rp2, rfl⟩ := own_form R0.o2
  obtain ⟨ra3, rm3, rp3, rfl⟩ := own_form R0.o3
  obtain ⟨ra4, rm4, rp4, rfl⟩ := own_form R0.o4
  have e67 : lo 6 ≠ lo 7 := by omega
  have e68 : lo 6 ≠ lo 8 := by omega
  have e78 : lo 7 ≠ lo 8 := by omega
  have f6 := fun i => N6.free i
  have f7 := fun i => N7.free i
  have f8 := fun i => N8.free i
  have c6 := fun i => N6.cell i
  have c7 := fun i => N7.cell i
  have c8 := fun i => N8.cell i
  have e76 := Ne.symm e67
  have e86 := Ne.symm e68
  have e87 := Ne.symm e78
  have HXL2 := Lib.hid XL
  have HQL := Lib.hid QL
  have HRL := Lib.hid RL
  clear XL QL RL
  go_upto_region 6 with fail
  clear c6 c7 c8
  have M6 := N6.put4 (u0 := .slice xa1 xm1 xp1) (u1 := .slice xa2 xm2 xp2) (u2 := .slice xa3 xm3 xp3) (u3 := .slice xa4 xm4 xp4)
  have M7 := N7.only (put4_only _ (lo 6) (.slice xa1 xm1 xp1) (.slice xa2 xm2 xp2) (.slice xa3 xm3 xp3) (.slice xa4 xm4 xp4)) (Ne.symm e67)
  have M8 := N8.only (put4_only _ (lo 6) (.slice xa1 xm1 xp1) (.slice xa2 xm2 xp2) (.slice xa3 xm3 xp3) (.slice xa4 xm4 xp4)) (Ne.symm e68)
  have P6 := M6.only (put4_only _ (lo 7) (.slice qa1 qm1 qp1) (.slice qa2 qm2 qp2) (.slice qa3 qm3 qp3) (.slice qa4 qm4 qp4)) e67
  have P7 := M7.put4 (u0 := .slice qa1 qm1 qp1) (u1 := .slice qa2 qm2 qp2) (u2 := .slice qa3 qm3 qp3) (u3 := .slice qa4 qm4 qp4)
  have P8 := M8.only (put4_only _ (lo 7) (.slice qa1 qm1 qp1) (.slice qa2 qm2 qp2) (.slice qa3 qm3 qp3) (.slice qa4 qm4 qp4)) (Ne.symm e78)
  have S6 := P6.only (put4_only _ (lo 8) (.slice ra1 rm1 rp1) (.slice ra2 rm2 rp2) (.slice ra3 rm3 rp3) (.slice ra4 rm4 rp4)) e68
  have S7 := P7.only (put4_only _ (lo 8) (.slice ra1 rm1 rp1) (.slice ra2 rm2 rp2) (.slice ra3 rm3 rp3) (.slice ra4 rm4 rp4)) e78
  have S8 := P8.put4 (u0 := .slice ra1 rm1 rp1) (u1 := .slice ra2 rm2 rp2) (u2 := .slice ra3 rm3 rp3) (u3 := .slice ra4 rm4 rp4)
  have X1 := ((X0.put4 N6 (.slice xa1 xm1 xp1) (.slice xa2 xm2 xp2) (.slice xa3 xm3 xp3) (.slice xa4 xm4 xp4)).put4 M7 (.slice qa1 qm1 qp1) (.slice qa2 qm2 qp2) (.slice qa3 qm3 qp3) (.slice qa4 qm4 qp4)).put4 P8 (.slice ra1 rm1 rp1) (.slice ra2 rm2 rp2) (.slice ra3 rm3 rp3) (.slice ra4 rm4 rp4)
  have Q1 := ((Q0.put4 N6 (.slice xa1 xm1 xp1) (.slice xa2 xm2 xp2) (.slice xa3 xm3 xp3) (.slice xa4 xm4 xp4)).put4 M7 (.slice qa1 qm1 qp1) (.slice qa2 qm2 qp2) (.slice qa3 qm3 qp3) (.slice qa4 qm4 qp4)).put4 P8 (.slice ra1 rm1 rp1) (.slice ra2 rm2 rp2) (.slice ra3 rm3 rp3) (.slice ra4 rm4 rp4)
  have R1 := ((R0.put4 N6 (.slice xa1 xm1 xp1) (.slice xa2 xm2 xp2) (.slice xa3 xm3 xp3) (.slice xa4 xm4 xp4)).put4 M7 (.slice qa1 qm1 qp1) (.slice qa2 qm2 qp2) (.slice qa3 qm3 qp3) (.slice qa4 qm4 qp4)).put4 P8 (.slice ra1 rm1 rp1) (.slice ra2 rm2 rp2) (.slice ra3 rm3 rp3) (.slice ra4 rm4 rp4)
  have hb3 := up_put4 (up_put4 (up_put4 hw s6.1 (.slice xa1 xm1 xp1) (.slice xa2 xm2 xp2) (.slice xa3 xm3 xp3) (.slice xa4 xm4 xp4)) s7.1 (.slice qa1 qm1 qp1) (.slice qa2 qm2 qp2) (.slice qa3 qm3 qp3) (.slice qa4 qm4 qp4)) s8.1 (.slice ra1 rm1 rp1) (.slice ra2 rm2 rp2) (.slice ra3 rm3 rp3) (.slice ra4 rm4 rp4)
  have hs3 := hb3.size
  clear f6 f7 f8 N6 N7 N8 M6 M7 M8 P6 P7 P8 X0 Q0 R0
  have hszw : ((((((((((((wt.setCell ⟨lo 6, 0, none⟩ (.slice xa1 xm1 xp1)).setCell ⟨lo 6, 1, none⟩ (.slice xa2 xm2 xp2)).setCell ⟨lo 6, 2, none⟩ (.slice xa3 xm3 xp3)).setCell ⟨lo 6, 3, none⟩ (.slice xa4 xm4 xp4)).setCell ⟨lo 7, 0, none⟩ (.slice qa1 qm1 qp1)).setCell ⟨lo 7, 1, none⟩ (.slice qa2 qm2 qp2)).setCell ⟨lo 7, 2, none⟩ (.slice qa3 qm3 qp3)).setCell ⟨lo 7, 3, none⟩ (.slice qa4 qm4 qp4)).setCell ⟨lo 8, 0, none⟩ (.slice ra1 rm1 rp1)).setCell ⟨lo 8, 1, none⟩ (.slice ra2 rm2 rp2)).setCell ⟨lo 8, 2, none⟩ (.slice ra3 rm3 rp3)).setCell ⟨lo 8, 3, none⟩ (.slice ra4 rm4 rp4)).heap.size = wt.heap.size := (put4_only _ (lo 8) (.slice ra1 rm1 rp1) (.slice ra2 rm2 rp2) (.slice ra3 rm3 rp3) (.slice ra4 rm4 rp4)).size.trans ((put4_only _ (lo 7) (.slice qa1 qm1 qp1) (.slice qa2 qm2 qp2) (.slice qa3 qm3 qp3) (.slice qa4 qm4 qp4)).size.trans (put4_only _ (lo 6) (.slice xa1 xm1 xp1) (.slice xa2 xm2 xp2) (.slice xa3 xm3 xp3) (.slice xa4 xm4 xp4)).size)
  generalize hws : ((((((((((((wt.setCell ⟨lo 6, 0, none⟩ (.slice xa1 xm1 xp1)).setCell ⟨lo 6, 1, none⟩ (.slice xa2 xm2 xp2)).setCell ⟨lo 6, 2, none⟩ (.slice xa3 xm3 xp3)).setCell ⟨lo 6, 3, none⟩ (.slice xa4 xm4 xp4)).setCell ⟨lo 7, 0, none⟩ (.slice qa1 qm1 qp1)).setCell ⟨lo 7, 1, none⟩ (.slice qa2 qm2 qp2)).setCell ⟨lo 7, 2, none⟩ (.slice qa3 qm3 qp3)).setCell ⟨lo 7, 3, none⟩ (.slice qa4 qm4 qp4)).setCell ⟨lo 8, 0, none⟩ (.slice ra1 rm1 rp1)).setCell ⟨lo 8, 1, none⟩ (.slice ra2 rm2 rp2)).setCell ⟨lo 8, 2, none⟩ (.slice ra3 rm3 rp3)).setCell ⟨lo 8, 3, none⟩ (.slice ra4 rm4 rp4)) = ws at S6 S7 S8 X1 Q1 R1 hb3 hs3 hszw ⊢
  have HXL := Lib.hid (show ∀ x ∈ X.cs, x.length ≤ 1000 from HXL.out)
  have hsy := HB.out.size
  have OX2 : ∀ b, (Value.slice xa2 xm2 xp2).ownBlock = some b → lo 1 ≤ b ∧ b < hi 1 := fun b e => HXL2.out _ (by simp [parts]) b e
  have bw := BW.out.kept hb3
  have fw := fun i => bw.free i
  have cw := fun i => bw.cell i
  have HS6 := Lib.hid S6
  have HS7 := Lib.hid S7
  have HS8 := Lib.hid S8
  have HX1 := Lib.hid X1
  have HQ1 := Lib.hid Q1
  have HR1 := Lib.hid R1
  have Hb3 := Lib.hid hb3
  clear S6 S7 S8 X1 Q1 R1 hb3 bx
  go_upto_region 7 with fail
  clear fw cw
  have hne6 : lo 6 ≠ w.heap.size + 1 := by omega
  have hne7 : lo 7 ≠ w.heap.size + 1 := by omega
  have hne8 : lo 8 ≠ w.heap.size + 1 := by omega
  have HB4 := up_put (up_later HB.out Hb3.out) (p := ⟨w.heap.size + 1, 4, none⟩) (by simp) (.int .i64 0)
  have BX4 := (BX.out.kept Hb3.out).far (p := ⟨w.heap.size + 1, 4, none⟩) (by simp) (.int .i64 0)
  have BW4 := bw.put 4 (.int .i64 0)
  simp only [List.setIfInBounds_toArray, List.set_cons_succ, List.set_cons_zero] at BW4
  have S64 := HS6.out.far (p := ⟨w.heap.size + 1, 4, none⟩) hne6 (.int .i64 0)
  have S74 := HS7.out.far (p := ⟨w.heap.size + 1, 4, none⟩) hne7 (.int .i64 0)
  have S84 := HS8.out.far (p := ⟨w.heap.size + 1, 4, none⟩) hne8 (.int .i64 0)
  have hrw : ∀ b, some (w.heap.size + 1) = some b → w.heap.size + 1 ≤ b ∧ b < w.heap.size + 2 := fun b e => by cases e; omega
  have X4 := HX1.out.but (grownBy_set ws (w.heap.size + 1) 4 (.int .i64 0)) hrw (off_of HXL2.out (by omega))
  have Q4 := HQ1.out.but (grownBy_set ws (w.heap.size + 1) 4 (.int .i64 0)) hrw (off_of HQL.out (by omega))
  have R4 := HR1.out.but (grownBy_set ws (w.heap.size + 1) 4 (.int .i64 0)) hrw (off_of HRL.out (by omega))
  have hszu : (ws.setCell ⟨w.heap.size + 1, 4, none⟩ (.int .i64 0)).heap.size = wt.heap.size := (Only.set _ _ _ _).size.trans hszw
  clear HS6 HS7 HS8 HX1 HQ1 HR1 bw hws hszw
  generalize hwu : ws.setCell ⟨w.heap.size + 1, 4, none⟩ (.int .i64 0) = wu at HB4 BX4 BW4 S64 S74 S84 X4 Q4 R4 hszu ⊢
  clear hwu
  have Hszu := Lib.hid hszu
  have N9 := Box.new (w := wu) (t := 79) (cs := #[iv m.x1, iv m.y1, iv m.x2, iv m.y2, .int .i64 0, iv m.t]) rfl
  have HX5 := Lib.hid (X4.kept (up_alloc up0 (.cells #[iv m.x1, iv m.y1, iv m.x2, iv m.y2, .int .i64 0, iv m.t] 79)))
  have HQ5 := Lib.hid (Q4.kept (up_alloc up0 (.cells #[iv m.x1, iv m.y1, iv m.x2, iv m.y2, .int .i64 0, iv m.t] 79)))
  have HR5 := Lib.hid (R4.kept (up_alloc up0 (.cells #[iv m.x1, iv m.y1, iv m.x2, iv m.y2, .int .i64 0, iv m.t] 79)))
  have hszA0 : (wu.alloc (.cells #[iv m.x1, iv m.y1, iv m.x2, iv m.y2, .int .i64 0, iv m.t] 79)).heap.size = wt.heap.size + 1 := by simp [hszu]
  have HszA := Lib.hid hszA0
  clear hszu hszA0
  have HS6 := Lib.hid (S64.alloc (.cells #[iv m.x1, iv m.y1, iv m.x2, iv m.y2, .int .i64 0, iv m.t] 79))
  have HS7 := Lib.hid (S74.alloc (.cells #[iv m.x1, iv m.y1, iv m.x2, iv m.y2, .int .i64 0, iv m.t] 79))
  have HS8 := Lib.hid (S84.alloc (.cells #[iv m.x1, iv m.y1, iv m.x2, iv m.y2, .int .i64 0, iv m.t] 79))
  have HBX := Lib.hid (BX4.alloc (.cells #[iv m.x1, iv m.y1, iv m.x2, iv m.y2, .int .i64 0, iv m.t] 79))
  have HBW := Lib.hid (BW4.alloc (.cells #[iv m.x1, iv m.y1, iv m.x2, iv m.y2, .int .i64 0, iv m.t] 79))
  have HBB := Lib.hid (up_alloc HB4 (.cells #[iv m.x1, iv m.y1, iv m.x2, iv m.y2, .int .i64 0, iv m.t] 79))
  have HN9 := Lib.hid N9
  have c6 := fun i => S64.cell i
  have c9 := fun i => BW4.cell i
  clear S64 S74 S84 X4 Q4 R4 BX4 BW4 HB4 N9
  go_upto_region 8 with (at_builtin; go_loud (refine wpList_append_own_at _ rfl _ _ 23 rfl (lo 1) 79 i2 (.agg #[iv 0, iv 0, iv 0, iv 0, iv 0, iv 0]) 6 48 Try.underlying23 hi2 hz20 hz21 hz22 rfl (by decide) _ _ _ rfl HX5.out.o2 ⟨wu.heap.size, 0, none⟩ 1 1 [iv m.x1, iv m.y1, iv m.x2, iv m.y2, iv 0, iv m.t] rfl rfl (box_newsM HN9.out) (by simp [Value.oneCell']) (by unfold maxLen; omega) (by omega) (by have := HszA.out; omega) ?_; intro v' w2 hown' hgrow _ hat; obtain ⟨g', cap', rfl⟩ := ownsRow_succ hown'; have hbo := HS6.out.grown hgrow (box_not_own HS6.out (by decide) HX5.out.o2); have hc1 := fun i => hbo.cell i; have hf1 := fun i => hbo.free i))
  clear c6 c9 hc1 hf1
  have hgr : (wu.alloc (.cells #[iv m.x1, iv m.y1, iv m.x2, iv m.y2, .int .i64 0, iv m.t] 79)).grownBy w2 (Value.slice xa2 xm2 xp2).ownBlock := hgrow
  have hat1 : (Value.slice (some ⟨g', 0, none⟩) (L.rg.length + 1) cap').ownBlock = (Value.slice xa2 xm2 xp2).ownBlock ∨ (Value.slice (some ⟨g', 0, none⟩) (L.rg.length + 1) cap').ownBlock = some (wu.alloc (.cells #[iv m.x1, iv m.y1, iv m.x2, iv m.y2, .int .i64 0, iv m.t] 79)).heap.size := hat
  clear hgrow hat
  have hzA := HszA.out
  have hsg := hgr.size
  have HB7 := up_put (HBB.out.grown hgr HBB.out.size (fun b e => by have := OX2 b e; omega)) (p := ⟨lo 6, 1, none⟩) (by simp; omega) (.slice (some ⟨g', 0, none⟩) (L.rg.length + 1) cap')
  have BX7 := (HBX.out.grown hgr (fun e => by have := OX2 _ e.symm; omega)).far (p := ⟨lo 6, 1, none⟩) (by simp; omega) (.slice (some ⟨g', 0, none⟩) (L.rg.length + 1) cap')
  have BW7 := (HBW.out.grown hgr (fun e => by have := OX2 _ e.symm; omega)).far (p := ⟨lo 6, 1, none⟩) (by simp; omega) (.slice (some ⟨g', 0, none⟩) (L.rg.length + 1) cap')
  have S67 := hbo.put 1 (.slice (some ⟨g', 0, none⟩) (L.rg.length + 1) cap')
  simp only [List.setIfInBounds_toArray, List.set_cons_succ, List.set_cons_zero] at S67
  have S77 := (HS7.out.grown hgr (box_not_own HS7.out (by decide) HX5.out.o2)).far (p := ⟨lo 6, 1, none⟩) e76 (.slice (some ⟨g', 0, none⟩) (L.rg.length + 1) cap')
  have S87 := (HS8.out.grown hgr (box_not_own HS8.out (by decide) HX5.out.o2)).far (p := ⟨lo 6, 1, none⟩) e86 (.slice (some ⟨g', 0, none⟩) (L.rg.length + 1) cap')
  have X7 : Cop 74 79 80 60 82 (lo 1) X (w2.setCell ⟨lo 6, 1, none⟩ (.slice (some ⟨g', 0, none⟩) (L.rg.length + 1) cap')) (.slice xa1 xm1 xp1) (.slice (some ⟨g', 0, none⟩) (L.rg.length + 1) cap') (.slice xa3 xm3 xp3) (.slice xa4 xm4 xp4) cx := by
    rw [HEX.out]
    exact (HX5.out.moreRg (x := ⟨m.x1, m.y1, m.x2, m.y2, 0, m.t⟩) hgr (by simpa [Wl.cells] using hown') (by decide) (by decide) (by decide) (by decide)).set hbo
  have Q7 := (HQ5.out.but hgr OX2 (off_of HQL.out (by omega))).set hbo (i := 1) (u := (.slice (some ⟨g', 0, none⟩) (L.rg.length + 1) cap'))
  have R7 := (HR5.out.but hgr OX2 (off_of HRL.out (by omega))).set hbo (i := 1) (u := (.slice (some ⟨g', 0, none⟩) (L.rg.length + 1) cap'))
  have hoX : ∀ b, (Value.slice (some ⟨g', 0, none⟩) (L.rg.length + 1) cap').ownBlock = some b → (lo 1 ≤ b ∧ b < hi 1) ∨ b = wt.heap.size + 1 := fun b hb => by
    rcases hat1 with e | e
    · exact .inl (OX2 b (by rw [← e]; exact hb))
    · rw [e] at hb
      cases hb
      exact .inr hzA
  have HOXQ := Lib.hid (show Off (lo 3) (hi 3) (parts (.slice xa1 xm1 xp1) (.slice (some ⟨g', 0, none⟩) (L.rg.length + 1) cap') (.slice xa3 xm3 xp3) (.slice xa4 xm4 xp4) cx) from (off_of HXL2.out (by omega)).second (fun b hb => by have := hoX b hb; omega))
  have HOXR := Lib.hid (show Off (lo 5) (hi 5) (parts (.slice xa1 xm1 xp1) (.slice (some ⟨g', 0, none⟩) (L.rg.length + 1) cap') (.slice xa3 xm3 xp3) (.slice xa4 xm4 xp4) cx) from (off_of HXL2.out (by omega)).second (fun b hb => by have := hoX b hb; omega))
  have HORQ := Lib.hid (show Off (lo 3) (hi 3) (parts (.slice ra1 rm1 rp1) (.slice ra2 rm2 rp2) (.slice ra3 rm3 rp3) (.slice ra4 rm4 rp4) cr) from off_of HRL.out (by omega))
  have HOQR := Lib.hid (show Off (lo 5) (hi 5) (parts (.slice qa1 qm1 qp1) (.slice qa2 qm2 qp2) (.slice qa3 qm3 qp3) (.slice qa4 qm4 qp4) cq) from off_of HQL.out (by omega))
  have hszv : wt.heap.size + 1 ≤ (w2.setCell ⟨lo 6, 1, none⟩ (.slice (some ⟨g', 0, none⟩) (L.rg.length + 1) cap')).heap.size := by
    have := (Only.set w2 (lo 6) 1 (.slice (some ⟨g', 0, none⟩) (L.rg.length + 1) cap')).size
    omega
  clear hgr hat1 hown' hbo HX5 HQ5 HR5 HS6 HS7 HS8 HBX HBW HBB HN9 hoX OX2 HszA hzA hsg
  generalize hwv : w2.setCell ⟨lo 6, 1, none⟩ (.slice (some ⟨g', 0, none⟩) (L.rg.length + 1) cap') = wv at HB7 BX7 BW7 S67 S77 S87 X7 Q7 R7 hszv ⊢
  clear hwv
  obtain ⟨Fz, mz, pz, hq, hzo⟩ := Q7.case HZ.out
  obtain ⟨b3, f3, rfl, hb3l, hq3⟩ := (Q7.land (by omega) (by omega) (by omega) (by omega) hlen.out).cs.at rfl hq
  obtain ⟨rfl, rfl, _⟩ := own_put (i := 0) (u := iv 0) Q7.o3
  obtain ⟨Gz, nz, oz, hr5, hzo5⟩ := R7.case HZ.out
  obtain ⟨b5, f5, rfl, hb5l, hq5⟩ := (R7.land (by omega) (by omega) (by omega) (by omega) hlen.out).cs.at rfl hr5
  obtain ⟨rfl, rfl, _⟩ := own_put (i := 0) (u := iv 0) R7.o3
  have HQC := Lib.hid hq
  have HRC := Lib.hid hr5
  have OZ : ∀ b, (Value.slice Fz mz pz).ownBlock = some b → lo 3 ≤ b ∧ b < hi 3 := fun b e => HQL.out (.slice Fz mz pz) (by simp only [parts, List.mem_cons, List.mem_map]; exact .inr (.inr (.inr (.inr ⟨_, List.mem_of_getElem? HQC.out, rfl⟩)))) b e
  have O3 : lo 3 ≤ b3 ∧ b3 < hi 3 := HQL.out (.slice (some ⟨b3, 0, none⟩) L.cs.length qp3) (by simp [parts]) b3 rfl
  have O5 : lo 5 ≤ b5 ∧ b5 < hi 5 := HRL.out (.slice (some ⟨b5, 0, none⟩) L.cs.length rp3) (by simp [parts]) b5 rfl
  have HX7 := Lib.hid X7
  have HQ7 := Lib.hid Q7
  have HR7 := Lib.hid R7
  have HZO := Lib.hid hzo
  have HBv := Lib.hid HB7
  have HS6 := Lib.hid S67
  have HS8 := Lib.hid S87
  clear hq hb3l hq3 hr5 hb5l hq5 hzo hzo5 X7 Q7 R7 HB7 S67 S87
  have cb := fun i => BX7.cell i
  go_upto_region 9 with fail
  clear cb
  rw [Ht.out]
  have n_S77 := box_not_own S77 (by decide) HZO.out
  have n_BX7 := box_not_own BX7 (by decide) HZO.out
  have n_BW7 := box_not_own BW7 (by decide) HZO.out
  have hrow : ∀ b, (Value.slice Fz mz pz).ownBlock = some b → b < wv.heap.size := fun b hb => (HZO.out.lt b hb).2
  apply wp_region_once 24 22 (Value.slice Fz mz pz).ownBlock [(FactR.eq _ _), (FactR.eq _ _), (FactR.eq _ _), (FactR.eq _ _), (FactR.eq _ _), (FactR.eq _ _), (FactR.eq _ _), (FactR.eq _ _), (FactR.eq _ _), (FactR.eq _ _), (FactR.eq _ _), (FactR.eq _ _), (FactR.eq _ _), (FactR.eq _ _), (FactR.eq _ _), (FactR.eq _ _), (FactR.eq _ _), (FactR.eq _ _), (FactR.eq _ _), (FactR.eq _ _), (FactR.eq _ _), (FactR.sl _ 1 82 #[iv m.x1, iv m.y1, iv m.x2, iv m.y2, iv 0, iv m.t, iv (t : Int), iv ((t : Int) + (g : Int))]), (FactR.any _), (FactR.eq _ _)] (Fresh (lo 3) 82 8 (.slice Fz mz pz) (zs.length + 1) (zs.flatMap Cl.cells ++ Cl.cells ⟨⟨m.x1, m.y1, m.x2, m.y2, 0, m.t⟩, (t : Int), (t : Int) + (g : Int)⟩))
  case hm => kernel_rfl
  case hB => kernel_rfl
  case hpn => decide
  case hFp => exact fresh_grown
  case hA => (intro vs; simp only [List.take_succ_cons, List.take_zero, putAll, if_true, Act.put, List.setIfInBounds_toArray, List.set_cons_zero, List.set_cons_succ]; exact rfl)
  case hstep =>
    intro vs
    refine And.intro (fun _ w hw hd => ?_) ?_
    · refine ite_yes rfl ?_
      simp only [Gives]
      go_simp
      exact ⟨Below.refl _ _, rfl⟩
    refine And.intro (fun _ w hw hd => ?_) ?_
    · have d0 := hd 0 (by decide) rfl (by decide)
      change vs 0 = _ at d0
      refine ite_yes rfl ?_
      have c_S77 := fun i => (S77.grown hw n_S77).cell i
      have c_BX7 := fun i => (BX7.grown hw n_BX7).cell i
      have c_BW7 := fun i => (BW7.grown hw n_BW7).cell i
      simp only [Gives]
      go_simp
      exact ⟨Below.refl _ _, rfl⟩
    refine And.intro (fun _ w hw hd => ?_) ?_
    · refine ite_yes rfl ?_
      simp only [Gives]
      go_simp
      exact ⟨Below.refl _ _, rfl⟩
    refine And.intro (fun _ w hw hd => ?_) ?_
    · refine ite_yes rfl ?_
      simp only [Gives]
      go_simp
      exact ⟨Below.refl _ _, rfl⟩
    refine And.intro (fun _ w hw hd => ?_) ?_
    · have d3 := hd 3 (by decide) rfl (by decide)
      change vs 3 = _ at d3
      refine ite_yes rfl ?_
      have c_S77 := fun i => (S77.grown hw n_S77).cell i
      have c_BX7 := fun i => (BX7.grown hw n_BX7).cell i
      have c_BW7 := fun i => (BW7.grown hw n_BW7).cell i
      simp only [Gives]
      go_simp
      exact ⟨Below.refl _ _, rfl⟩
    refine And.intro (fun _ w hw hd => ?_) ?_
    · refine ite_yes rfl ?_
      simp only [Gives]
      go_simp
      exact ⟨Below.refl _ _, rfl⟩
    refine And.intro (fun _ w hw hd => ?_) ?_
    · have d4 := hd 4 (by decide) rfl (by decide)
      change vs 4 = _ at d4
      have d5 := hd 5 (by decide) rfl (by decide)
      change vs 5 = _ at d5
      refine ite_yes rfl ?_
      simp only [Gives]
      go_simp
      exact ⟨Below.refl _ _, rfl⟩
    refine And.intro (fun _ w hw hd => ?_) ?_
    · have d6 := hd 6 (by decide) rfl (by decide)
      change vs 6 = _ at d6
      refine ite_yes rfl ?_
      have c_S77 := fun i => (S77.grown hw n_S77).cell i
      have c_BX7 := fun i => (BX7.grown hw n_BX7).cell i
      have c_BW7 := fun i => (BW7.grown hw n_BW7).cell i
      have q0 : w.cell? ⟨b3, k, none⟩ = some (.slice Fz mz pz) := own_cell (own_other HQ7.out.o3 HZO.out (by decide) hw) (by simp [HQC.out])
      simp only [Gives]
      go_simp
      exact ⟨Below.refl _ _, rfl⟩
    refine And.intro (fun _ w hw hd => ?_) ?_
    · refine ite_yes rfl ?_
      have c_S77 := fun i => (S77.grown hw n_S77).cell i
      have c_BX7 := fun i => (BX7.grown hw n_BX7).cell i
      have c_BW7 := fun i => (BW7.grown hw n_BW7).cell i
      simp only [Gives]
      go_simp
      exact ⟨Below.refl _ _, rfl⟩
    refine And.intro (fun _ w hw hd => ?_) ?_
    · refine ite_yes rfl ?_
      simp only [Gives]
      go_simp
      exact ⟨Below.refl _ _, rfl⟩
    refine And.intro (fun _ w hw hd => ?_) ?_
    · refine ite_yes rfl ?_
      simp only [Gives]
      go_simp
      exact ⟨Below.refl _ _, rfl⟩
    refine And.intro (fun _ w hw hd => ?_) ?_
    · refine ite_yes rfl ?_
      simp only [Gives]
      go_simp
      exact ⟨Below.refl _ _, rfl⟩
    refine And.intro (fun _ w hw hd => ?_) ?_
    · have d11 := hd 11 (by decide) rfl (by decide)
      change vs 11 = _ at d11
      refine ite_yes rfl ?_
      simp only [Gives]
      go_simp
      exact ⟨Below.refl _ _, rfl⟩
    refine And.intro (fun _ w hw hd => ?_) ?_
    · refine ite_yes rfl ?_
      simp only [Gives]
      go_simp
      exact ⟨Below.refl _ _, rfl⟩
    refine And.intro (fun _ w hw hd => ?_) ?_
    · have d13 := hd 13 (by decide) rfl (by decide)
      change vs 13 = _ at d13
      refine ite_yes rfl ?_
      have c_S77 := fun i => (S77.grown hw n_S77).cell i
      have c_BX7 := fun i => (BX7.grown hw n_BX7).cell i
      have c_BW7 := fun i => (BW7.grown hw n_BW7).cell i
      simp only [Gives]
      go_simp
      exact ⟨Below.refl _ _, rfl⟩
    refine And.intro (fun _ w hw hd => ?_) ?_
    · have d14 := hd 14 (by decide) rfl (by decide)
      change vs 14 = _ at d14
      refine ite_yes rfl ?_
      simp only [Gives]
      go_simp
      exact ⟨Below.refl _ _, rfl⟩
    refine And.intro (fun _ w hw hd => ?_) ?_
    · refine ite_yes rfl ?_
      simp only [Gives]
      go_simp
      exact ⟨Below.refl _ _, rfl⟩
    refine And.intro (fun _ w hw hd => ?_) ?_
    · have d15 := hd 15 (by decide) rfl (by decide)
      change vs 15 = _ at d15
      have d16 := hd 16 (by decide) rfl (by decide)
      change vs 16 = _ at d16
      refine ite_yes rfl ?_
      simp only [Gives]
      go_simp
      exact ⟨Below.refl _ _, rfl⟩
    refine And.intro (fun _ w hw hd => ?_) ?_
    · have d12 := hd 12 (by decide) rfl (by decide)
      change vs 12 = _ at d12
      have d17 := hd 17 (by decide) rfl (by decide)
      change vs 17 = _ at d17
      refine ite_yes rfl ?_
      simp only [Gives]
      go_simp
      exact ⟨Below.refl _ _, rfl⟩
    refine And.intro (fun _ w hw hd => ?_) ?_
    · have d10 := hd 10 (by decide) rfl (by decide)
      change vs 10 = _ at d10
      have d18 := hd 18 (by decide) rfl (by decide)
      change vs 18 = _ at d18
      refine ite_yes rfl ?_
      simp only [Gives]
      go_simp
      exact ⟨Below.refl _ _, rfl⟩
    refine And.intro (fun _ w hw hd => ?_) ?_
    · have d8 := hd 8 (by decide) rfl (by decide)
      change vs 8 = _ at d8
      have d9 := hd 9 (by decide) rfl (by decide)
      change vs 9 = _ at d9
      have d19 := hd 19 (by decide) rfl (by decide)
      change vs 19 = _ at d19
      refine ite_yes rfl ?_
      simp only [Gives]
      go_simp
      exact ⟨Below.refl _ _, rfl⟩
    refine And.intro (fun _ w hw hd => ?_) ?_
    · have d20 := hd 20 (by decide) rfl (by decide)
      change vs 20 = _ at d20
      refine ite_yes rfl ?_
      simp only [Gives]
      go_simp
      exact ⟨(Below.refl _ _).alloc (Nat.le_refl _) _, ⟨_, rfl, Box.new rfl, fun e => (by have := hrow _ e.symm; have := hw.size; omega)⟩⟩
    refine And.intro (fun h => absurd rfl h) ?_
    refine And.intro (fun _ w hw hd => ?_) ?_
    · have d1 := hd 1 (by decide) rfl (by decide)
      change vs 1 = _ at d1
      have d2 := hd 2 (by decide) rfl (by decide)
      change vs 2 = _ at d2
      refine ite_yes rfl ?_
      simp only [Gives]
      go_simp
      exact ⟨Below.refl _ _, rfl⟩
    exact trivial
  case hp =>
    intro vs o ho w hw hd
    obtain rfl := Option.some.inj ho
    have d7 := hd 7 (by decide) rfl (by decide)
    change vs 7 = _ at d7
    obtain ⟨n21, d21, N21, E21⟩ := hd 21 (by decide) rfl (by decide)
    refine ⟨rfl, ?_⟩
    simp only [Gives]
    have ho := own_below HZO.out hw
    have hsz := hw.size
    obtain ⟨v', w', hra, hoa, hga, _, hat⟩ := run_append_own_at (P := Try.prog) (w := w) (lo 3) 80 80 82 i5 (.agg #[iv 0, iv 0, iv 0, iv 0, iv 0, iv 0, iv 0, iv 0]) 8 64 Try.underlying80 hi5 hz50 hz51 hz52 rfl (by decide) _ _ _ ho ⟨n21, 0, none⟩ 1 1 [iv m.x1, iv m.y1, iv m.x2, iv m.y2, iv 0, iv m.t, iv (t : Int), iv ((t : Int) + (g : Int))] rfl (box_newsM N21) (by simp [Value.oneCell']) (by unfold maxLen; omega) (by omega) (by omega)
    refine gives_append (.tmp 73) (.tmp 87) 80 rfl _ _ _ ?_ ?_ hra ⟨hga, hoa, hat⟩
    all_goals (go_simp)
  intro vs wt w1 wz hwt hF hwz hd
  have d0 := hd 0 (by decide) (by decide)
  change vs 0 = _ at d0
  have d1 := hd 1 (by decide) (by decide)
  change vs 1 = _ at d1
  have d2 := hd 2 (by decide) (by decide)
  change vs 2 = _ at d2
  have d3 := hd 3 (by decide) (by decide)
  change vs 3 = _ at d3
  have d4 := hd 4 (by decide) (by decide)
  change vs 4 = _ at d4
  have d5 := hd 5 (by decide) (by decide)
  change vs 5 = _ at d5
  have d6 := hd 6 (by decide) (by decide)
  change vs 6 = _ at d6
  have d7 := hd 7 (by decide) (by decide)
  change vs 7 = _ at d7
  have d8 := hd 8 (by decide) (by decide)
  change vs 8 = _ at d8
  have d9 := hd 9 (by decide) (by decide)
  change vs 9 = _ at d9
  have d10 := hd 10 (by decide) (by decide)
  change vs 10 = _ at d10
  have d11 := hd 11 (by decide) (by decide)
  change vs 11 = _ at d11
  have d12 := hd 12 (by decide) (by decide)
  change vs 12 = _ at d12
  have d13 := hd 13 (by decide) (by decide)
  change vs 13 = _ at d13
  have d14 := hd 14 (by decide) (by decide)
  change vs 14 = _ at d14
  have d15 := hd 15 (by decide) (by decide)
  change vs 15 = _ at d15
  have d16 := hd 16 (by decide) (by decide)
  change vs 16 = _ at d16
  have d17 := hd 17 (by decide) (by decide)
  change vs 17 = _ at d17
  have d18 := hd 18 (by decide) (by decide)
  change vs 18 = _ at d18
  have d19 := hd 19 (by decide) (by decide)
  change vs 19 = _ at d19
  have d20 := hd 20 (by decide) (by decide)
  change vs 20 = _ at d20
  have d23 := hd 23 (by decide) (by decide)
  change vs 23 = _ at d23
  simp only [d0, d1, d2, d3, d4, d5, d6, d7, d8, d9, d10, d11, d12, d13, d14, d15, d16, d17, d18, d19, d20, d23, List.drop_succ_cons, List.drop_zero]
  clear hd d0 d1 d2 d3 d4 d5 d6 d7 d8 d9 d10 d11 d12 d13 d14 d15 d16 d17 d18 d19 d20 d23
  obtain ⟨hgrow, hown', hat⟩ := hF
  obtain ⟨gy, capy, hvv⟩ := ownsRow_succ hown'
  rw [hvv] at hown' hat
  simp only [hvv]
  have hsz1 := hwt.size
  have hsz2 := hgrow.size
  have hsz3 := hwz.size
  have HZt := Lib.hid (own_below HZO.out hwt)
  have HQt := Lib.hid (HQ7.out.kept hwt)
  have hg2 := hgrow.trans ((grown_of_below hwz).but _)
  have h3 := own_below (own_other HQt.out.o3 HZt.out (by decide) hgrow) hwz
  have hc3 : wz.cell? ⟨b3, k, none⟩ = some (.slice Fz mz pz) := own_cell h3 (by simp [HQC.out])
  have hf3 : wz.frozen? ⟨b3, k, none⟩ = false := own_free h3
  have S6 := (((HS6.out.kept hwt).grown hgrow (box_not_own (HS6.out.kept hwt) (by decide) HZt.out)).kept hwz).far (p := ⟨b3, k, none⟩) (by simp; omega) (.slice (some ⟨gy, 0, none⟩) (zs.length + 1) capy)
  have S7 := (((S77.kept hwt).grown hgrow (box_not_own (S77.kept hwt) (by decide) HZt.out)).kept hwz).far (p := ⟨b3, k, none⟩) (by simp; omega) (.slice (some ⟨gy, 0, none⟩) (zs.length + 1) capy)
  have S8 := (((HS8.out.kept hwt).grown hgrow (box_not_own (HS8.out.kept hwt) (by decide) HZt.out)).kept hwz).far (p := ⟨b3, k, none⟩) (by simp; omega) (.slice (some ⟨gy, 0, none⟩) (zs.length + 1) capy)
  have BX8 := (((BX7.kept hwt).grown hgrow (box_not_own (BX7.kept hwt) (by decide) HZt.out)).kept hwz).far (p := ⟨b3, k, none⟩) (by simp; omega) (.slice (some ⟨gy, 0, none⟩) (zs.length + 1) capy)
  have HB8 := up_put (up_later ((up_later HBv.out hwt).grown hgrow (by have := (up_later HBv.out hwt).size; omega) (fun b e => by have := OZ b e; omega)) hwz) (p := ⟨b3, k, none⟩) (by simp; omega) (.slice (some ⟨gy, 0, none⟩) (zs.length + 1) capy)
  have Y8 : Cop 74 79 80 60 82 (lo 3) Y (wz.setCell ⟨b3, k, none⟩ (.slice (some ⟨gy, 0, none⟩) (zs.length + 1) capy)) (.slice qa1 qm1 qp1) (.slice qa2 qm2 qp2) (.slice (some ⟨b3, 0, none⟩) L.cs.length qp3) (.slice qa4 qm4 qp4) (cq.set k (.slice (some ⟨gy, 0, none⟩) (zs.length + 1) capy, zs ++ [⟨⟨m.x1, m.y1, m.x2, m.y2, 0, m.t⟩, (t : Int), (t : Int) + (g : Int)⟩])) := by
    rw [HEY.out]
    exact HQt.out.otherCs (k := k) (l := zs ++ [⟨⟨m.x1, m.y1, m.x2, m.y2, 0, m.t⟩, (t : Int), (t : Int) + (g : Int)⟩]) HQC.out hg2 (by simpa [Cl.cells] using own_below hown' hwz) (hat.imp id fun h b hb => by rw [h] at hb; cases hb; omega) (by decide) (by decide) (by decide) (by decide) (by decide) (by decide) (by decide)
  have O3r : ∀ b, some b3 = some b → lo 3 ≤ b ∧ b < hi 3 := fun b e => by cases e; exact O3
  have O5r : ∀ b, some b5 = some b → lo 5 ≤ b ∧ b < hi 5 := fun b e => by cases e; exact O5
  have X8 := ((((HX7.out.kept hwt).but hgrow OZ HOXQ.out).kept hwz).but (grownBy_set wz b3 k (.slice (some ⟨gy, 0, none⟩) (zs.length + 1) capy)) O3r HOXQ.out)
  have R8 := ((((HR7.out.kept hwt).but hgrow OZ HORQ.out).kept hwz).but (grownBy_set wz b3 k (.slice (some ⟨gy, 0, none⟩) (zs.length + 1) capy)) O3r HORQ.out)
  have HOY := Lib.hid (show Off (lo 5) (hi 5) (parts (.slice qa1 qm1 qp1) (.slice qa2 qm2 qp2) (.slice (some ⟨b3, 0, none⟩) L.cs.length qp3) (.slice qa4 qm4 qp4) (cq.set k (.slice (some ⟨gy, 0, none⟩) (zs.length + 1) capy, zs ++ [⟨⟨m.x1, m.y1, m.x2, m.y2, 0, m.t⟩, (t : Int), (t : Int) + (g : Int)⟩]))) from HOQR.out.case fun b hb => by
    rcases hat with e | e
    · rw [e] at hb
      have := OZ b hb
      omega
    · rw [e] at hb
      cases hb
      omega)
  have HY8 := Lib.hid Y8
  have HX8 := Lib.hid X8
  have HR8 := Lib.hid R8
  have HBq := Lib.hid HB8
  have HS6 := Lib.hid S6
  have HS7 := Lib.hid S7
  have HS8 := Lib.hid S8
  have HBX := Lib.hid BX8
  clear Y8 X8 R8 HB8 S6 S7 S8 BX8 hgrow hown' hat hg2 h3 HX7 HQ7 HR7 HZO HZt HQt HBv S77 BX7 BW7 n_S77 n_BX7 n_BW7 hrow hwt hsz1 hsz2 OZ hszv
  go_upto_region 10 with fail
  clear hc3 hf3 hwz hsz3
  generalize hwy : wz.setCell ⟨b3, k, none⟩ (.slice (some ⟨gy, 0, none⟩) (zs.length + 1) capy) = wy at HY8 HX8 HR8 HBq HS6 HS7 HS8 HBX ⊢
  clear hwy
  have S8 := HS8.out
  have c8 := fun i => S8.cell i
  have hc5 : wy.cell? ⟨b5, k, none⟩ = some (.slice Gz nz oz) := own_cell HR8.out.o3 (by simp [HRC.out])
  have hf5 : wy.frozen? ⟨b5, k, none⟩ = false := own_free HR8.out.o3
  go_upto_region 11 with fail
  clear c8 hc5 hf5
  have XB := Lib.hid (HS6.out.far (p := ⟨b5, k, none⟩) (by simp; omega) (.slice none 0 0))
  have YB := Lib.hid (HS7.out.far (p := ⟨b5, k, none⟩) (by simp; omega) (.slice none 0 0))
  have ZB := Lib.hid (S8.far (p := ⟨b5, k, none⟩) (by simp; omega) (.slice none 0 0))
  have BX := Lib.hid (HBX.out.far (p := ⟨b5, k, none⟩) (by simp; omega) (.slice none 0 0))
  have HB := Lib.hid (up_put HBq.out (p := ⟨b5, k, none⟩) (by simp; omega) (.slice none 0 0))
  have HT := Lib.hid (HT0.out.kept HB.out)
  have Z9 : Cop 74 79 80 60 82 (lo 5) Z (wy.setCell ⟨b5, k, none⟩ (.slice none 0 0)) (.slice ra1 rm1 rp1) (.slice ra2 rm2 rp2) (.slice (some ⟨b5, 0, none⟩) L.cs.length rp3) (.slice ra4 rm4 rp4) (cr.set k (.slice none 0 0, [])) := by
    rw [HEZ.out]
    exact HR8.out.otherCs (k := k) (l := []) HRC.out ((grown_of_below (Below.refl _ _)).but _) (World.ownsRow_nil _ _ _ _) (.inr fun b hb => by cases hb) (by decide) (by decide) (by decide) (by decide) (by decide) (by decide) (by decide)
  have HZ2 := Lib.hid (Z9.land (by omega) (by omega) (by omega) (by omega) HZL.out)
  have HX := Lib.hid ((HX8.out.but (grownBy_set wy b5 k (.slice none 0 0)) O5r HOXR.out).land (by omega) (by omega) (by omega) (by omega) HXL.out)
  have HY := Lib.hid ((HY8.out.but (grownBy_set wy b5 k (.slice none 0 0)) O5r HOY.out).land (by omega) (by omega) (by omega) (by omega) HYL.out)
  clear Z9 S8 HS6 HS7 HS8 HBX HBq HX8 HY8 HR8 HOY HOXR HOXQ HORQ HOQR O5r O3r O3 O5 HQC HRC HEX HEY HEZ HXL HYL HZL HXL2 HQL HRL
  generalize hwq : wy.setCell ⟨b5, k, none⟩ (.slice none 0 0) = wq at XB YB ZB BX HB HT HZ2 HX HY ⊢
  clear hwq
  have BB := BX.out
  have cB := fun i => BB.cell i
  go_wp2_with fail
  clear cB BB
  refine (Land_any _ _ _ _ L _ _ HT.out).mono ?_
  rintro e ya ⟨a1, a2, a3, a4, ca, rfl, hl, hb⟩
  have Hl := Lib.hid hl
  clear hl
  have HB := Lib.hid (up_later HB.out hb)
  have HT := Lib.hid (HT.out.kept hb)
  have BX := Lib.hid (BX.out.kept hb)
  have HX := Lib.hid (HX.out.kept hb)
  have HY := Lib.hid (HY.out.kept hb)
  have HZ2 := Lib.hid (HZ2.out.kept hb)
  have XB := Lib.hid (XB.out.kept hb)
  have YB := Lib.hid (YB.out.kept hb)
  have ZB := Lib.hid (ZB.out.kept hb)
  clear hb
  go_wp2_with fail
  have AA := Hours_any _ _ _ _ L _ i j k ya Hl.out
  rw [(HHL.out k Hkc.out)] at AA
  refine AA.mono ?_
  rintro e yb ⟨uh, rfl, hrh, hb⟩
  obtain ⟨_, rh, rhc, rfl, _, _⟩ := hrh.form
  have HU := Lib.hid hrh
  clear AA Hl hrh
  have HB := Lib.hid (up_later HB.out hb)
  have HT := Lib.hid (HT.out.kept hb)
  have BX := Lib.hid (BX.out.kept hb)
  have HX := Lib.hid (HX.out.kept hb)
  have HY := Lib.hid (HY.out.kept hb)
  have HZ2 := Lib.hid (HZ2.out.kept hb)
  have XB := Lib.hid (XB.out.kept hb)
  have YB := Lib.hid (YB.out.kept hb)
  have ZB := Lib.hid (ZB.out.kept hb)
  clear hb
  have BB := ZB.out
  have cB := fun i => BB.cell i
  go_wp2_with fail
  clear cB BB
  refine (Land_any _ _ _ _ Z _ _ HZ2.out).mono ?_
  rintro e ya ⟨a1, a2, a3, a4, ca, rfl, hl, hb⟩
  have Hl := Lib.hid hl
  clear hl
  have HB := Lib.hid (up_later HB.out hb)
  have HT := Lib.hid (HT.out.kept hb)
  have BX := Lib.hid (BX.out.kept hb)
  have HX := Lib.hid (HX.out.kept hb)
  have HY := Lib.hid (HY.out.kept hb)
  have XB := Lib.hid (XB.out.kept hb)
  have YB := Lib.hid (YB.out.kept hb)
  have HU := Lib.hid (HU.out.kept hb)
  clear hb
  go_wp2_with fail
  have AA := Hours_any _ _ _ _ Z _ i j k ya Hl.out
  rw [HHZ.out] at AA
  refine AA.mono ?_
  rintro e yb ⟨uh, rfl, hrh, hb⟩
  obtain ⟨_, rf, rfc, rfl, _, _⟩ := hrh.form
  have HF := Lib.hid hrh
  clear AA Hl hrh
  have HB := Lib.hid (up_later HB.out hb)
  have HT := Lib.hid (HT.out.kept hb)
  have BX := Lib.hid (BX.out.kept hb)
  have HX := Lib.hid (HX.out.kept hb)
  have HY := Lib.hid (HY.out.kept hb)
  have XB := Lib.hid (XB.out.kept hb)
  have YB := Lib.hid (YB.out.kept hb)
  have HU := Lib.hid (HU.out.kept hb)
  clear hb
  go_wp2_with fail
  refine (within_any _ _ _ _ _ HU.out HF.out).mono ?_
  rintro e yd ⟨rfl, hb⟩
  rw [HWZ.out k Hkc.out]
  have HB := Lib.hid (up_later HB.out hb)
  have HT := Lib.hid (HT.out.kept hb)
  have BX := Lib.hid (BX.out.kept hb)
  have HX := Lib.hid (HX.out.kept hb)
  have HY := Lib.hid (HY.out.kept hb)
  have XB := Lib.hid (XB.out.kept hb)
  have YB := Lib.hid (YB.out.kept hb)
  have HU := Lib.hid (HU.out.kept hb)
  have HF := Lib.hid (HF.out.kept hb)
  clear hb
  go_wp2_with fail
  go_loopw [24] (fun q wr => ∃ r : Nat, r ≤ c.length ∧ q = .int .i64 r ∧ Hid (Below w.heap.size w wr) ∧ Hid (LandAt wr (.slice A1 L.st.length cap1) (.slice A2 L.rg.length cap2) (.slice A3 c.length cap3) (.slice A4 L.sn.length cap4) L c) ∧ Hid (Box wr w.heap.size 27 #[.slice A1 L.st.length cap1, .slice A2 L.rg.length cap2, .slice A3 c.length cap3, .slice A4 L.sn.length cap4])
      ∧ Hid (LandAt wr (.slice xa1 xm1 xp1) (.slice (some ⟨g', 0, none⟩) (L.rg.length + 1) cap') (.slice xa3 xm3 xp3) (.slice xa4 xm4 xp4) X cx) ∧ Hid (Box wr (lo 6) 27 #[.slice xa1 xm1 xp1, .slice (some ⟨g', 0, none⟩) (L.rg.length + 1) cap', .slice xa3 xm3 xp3, .slice xa4 xm4 xp4])
      ∧ Hid (LandAt wr (.slice qa1 qm1 qp1) (.slice qa2 qm2 qp2) (.slice (some ⟨b3, 0, none⟩) L.cs.length qp3) (.slice qa4 qm4 qp4) Y (cq.set k (.slice (some ⟨gy, 0, none⟩) (zs.length + 1) capy, zs ++ [⟨⟨m.x1, m.y1, m.x2, m.y2, 0, m.t⟩, (t : Int), (t : Int) + (g : Int)⟩]))) ∧ Hid (Box wr (lo 7) 27 #[.slice qa1 qm1 qp1, .slice qa2 qm2 qp2, .slice (some ⟨b3, 0, none⟩) L.cs.length qp3, .slice qa4 qm4 qp4])
      ∧ Hid (RowsAt wr (.slice rh (lh k).length rhc) 1 (fun n => [iv n]) (lh k)) ∧ Hid (RowsAt wr (.slice rf lz.length rfc) 1 (fun n => [iv n]) lz)) (fun q _ => c.length - (intOf q).toNat)
  case atStart => exact ⟨0, by omega, rfl, HB.out, HT.out, BX.out, HX.out, XB.out, HY.out, YB.out, HU.out, HF.out⟩
  case round =>
    clear HB HT BX HX XB HY YB HU HF
    obtain ⟨r, hr, rfl, HB, HT, BX, HX, XB, HY, YB, HU, HF⟩ := hrel
    have r0 : (0 : Int) ≤ (r : Int) := by omega
    by_cases hlt : r < c.length
    · have r1 : (r : Int) < (c.length : Int) := by omega
      have hrc : r < L.cs.length := by have := Hcl.out; omega
      have BB := BX.out
      have cB := fun i => BB.cell i
      go_wp2_with fail
      clear cB BB
      refine (Land_any _ _ _ _ L _ _ HT.out).mono ?_
      rintro e ya ⟨a1, a2, a3, a4, ca, rfl, hl, hb⟩
      have Hl := Lib.hid hl
      clear hl
      have HB := Lib.hid (up_later HB.out hb)
      have HT := Lib.hid (HT.out.kept hb)
      have BX := Lib.hid (BX.out.kept hb)
      have HX := Lib.hid (HX.out.kept hb)
      have XB := Lib.hid (XB.out.kept hb)
      have HY := Lib.hid (HY.out.kept hb)
      have YB := Lib.hid (YB.out.kept hb)
      have HU := Lib.hid (HU.out.kept hb)
      have HF := Lib.hid (HF.out.kept hb)
      clear hb
      go_wp2_with fail
      have AA := Hours_any _ _ _ _ L _ i j r ya Hl.out
      rw [(HHL.out r hrc)] at AA
      refine AA.mono ?_
      rintro e yb ⟨uh, rfl, hrh, hb⟩
      obtain ⟨_, rv, rvc, rfl, _, _⟩ := hrh.form
      have HV := Lib.hid hrh
      clear AA Hl hrh
      have HB := Lib.hid (up_later HB.out hb)
      have HT := Lib.hid (HT.out.kept hb)
      have BX := Lib.hid (BX.out.kept hb)
      have HX := Lib.hid (HX.out.kept hb)
      have XB := Lib.hid (XB.out.kept hb)
      have HY := Lib.hid (HY.out.kept hb)
      have YB := Lib.hid (YB.out.kept hb)
      have HU := Lib.hid (HU.out.kept hb)
      have HF := Lib.hid (HF.out.kept hb)
      clear hb
      go_wp2_with fail
      refine (within_any _ _ _ _ _ HV.out HF.out).mono ?_
      rintro e yd ⟨rfl, hb⟩
      rw [HWZ.out r hrc]
      clear HV
      have HB := Lib.hid (up_later HB.out hb)
      have HT := Lib.hid (HT.out.kept hb)
      have BX := Lib.hid (BX.out.kept hb)
      have HX := Lib.hid (HX.out.kept hb)
      have XB := Lib.hid (XB.out.kept hb)
      have HY := Lib.hid (HY.out.kept hb)
      have YB := Lib.hid (YB.out.kept hb)
      have HU := Lib.hid (HU.out.kept hb)
      have HF := Lib.hid (HF.out.kept hb)
      clear hb
      go_wp2_with fail
      exact ⟨⟨r + 1, by omega, by go_num, HB.out, HT.out, BX.out, HX.out, XB.out, HY.out, YB.out, HU.out, HF.out⟩, by simp [intOf]; omega⟩
    · obtain rfl : r = c.length := by omega
      have BB := BX.out
      have cB := fun i => BB.cell i
      have BB2 := XB.out
      have cX := fun i => BB2.cell i
      go_wp2_with fail
      clear cB BB BB2 cX
      refine (Lfault_any _ _ _ _ X _ _ HX.out).mono ?_
      rintro e yf ⟨rfl, hb⟩
      have HB := Lib.hid (up_later HB.out hb)
      have HX := Lib.hid (HX.out.kept hb)
      have XB := Lib.hid (XB.out.kept hb)
      have HY := Lib.hid (HY.out.kept hb)
      have YB := Lib.hid (YB.out.kept hb)
      have HU := Lib.hid (HU.out.kept hb)
      clear hb
      by_cases he3 : errI X = 0
      · rw [he3]
        obtain ⟨w3, w4⟩ := HHX.out he3
        have W3 := Lib.hid w3
        have W4 := Lib.hid w4
        clear he3 w3 w4
        have BB := XB.out
        have cB := fun i => BB.cell i
        go_wp2_with fail
        clear cB BB
        refine (Land_any _ _ _ _ X _ _ HX.out).mono ?_
        rintro e ya ⟨a1, a2, a3, a4, ca, rfl, hl, hb⟩
        have Hl := Lib.hid hl
        clear hl
        have HB := Lib.hid (up_later HB.out hb)
        have HY := Lib.hid (HY.out.kept hb)
        have YB := Lib.hid (YB.out.kept hb)
        have HU := Lib.hid (HU.out.kept hb)
        clear hb
        go_wp2_with fail
        have AA := Hours_any _ _ _ _ X _ i j k ya Hl.out
        rw [W3.out] at AA
        refine AA.mono ?_
        rintro e yb ⟨uh, rfl, hrh, hb⟩
        obtain ⟨_, rv, rvc, rfl, _, _⟩ := hrh.form
        have HV := Lib.hid hrh
        clear AA Hl hrh
        have HB := Lib.hid (up_later HB.out hb)
        have HY := Lib.hid (HY.out.kept hb)
        have YB := Lib.hid (YB.out.kept hb)
        have HU := Lib.hid (HU.out.kept hb)
        clear hb
        go_wp2_with fail
        refine (within_any _ _ _ _ _ HV.out HU.out).mono ?_
        rintro e yd ⟨rfl, hb⟩
        rw [W4.out]
        clear HV
        have HB := Lib.hid (up_later HB.out hb)
        have HY := Lib.hid (HY.out.kept hb)
        have YB := Lib.hid (YB.out.kept hb)
        have HU := Lib.hid (HU.out.kept hb)
        clear hb
        have BB := YB.out
        have cB := fun i => BB.cell i
        go_wp2_with fail
        clear cB BB
        refine (Lfault_any _ _ _ _ Y _ _ HY.out).mono ?_
        rintro e yf ⟨rfl, hb⟩
        have HB := Lib.hid (up_later HB.out hb)
        have HY := Lib.hid (HY.out.kept hb)
        have YB := Lib.hid (YB.out.kept hb)
        have HU := Lib.hid (HU.out.kept hb)
        clear hb
        by_cases he4 : errI Y = 0
        · rw [he4]
          obtain ⟨w5, w6⟩ := HHY.out he4
          have W5 := Lib.hid w5
          have W6 := Lib.hid w6
          clear he4 w5 w6
          have BB := YB.out
          have cB := fun i => BB.cell i
          go_wp2_with fail
          clear cB BB
          refine (Land_any _ _ _ _ Y _ _ HY.out).mono ?_
          rintro e ya ⟨a1, a2, a3, a4, ca, rfl, hl, hb⟩
          have Hl := Lib.hid hl
          clear hl
          have HB := Lib.hid (up_later HB.out hb)
          have HU := Lib.hid (HU.out.kept hb)
          clear hb
          go_wp2_with fail
          have AA := Hours_any _ _ _ _ Y _ i j k ya Hl.out
          rw [W5.out] at AA
          refine AA.mono ?_
          rintro e yb ⟨uh, rfl, hrh, hb⟩
          obtain ⟨_, rv, rvc, rfl, _, _⟩ := hrh.form
          have HV := Lib.hid hrh
          clear AA Hl hrh
          have HB := Lib.hid (up_later HB.out hb)
          have HU := Lib.hid (HU.out.kept hb)
          clear hb
          go_wp2_with fail
          refine (within_any _ _ _ _ _ HV.out HU.out).mono ?_
          rintro e yd ⟨rfl, hb⟩
          rw [W6.out]
          clear HV HU
          have HB := Lib.hid (up_later HB.out hb)
          clear hb
          go_wp2_with fail
          refine (awake_any _).mono ?_
          rintro e y9 ⟨rfl, hb⟩
          go_wp2_with fail
          go_ret
          exact ⟨by simp [go_sem], up_later HB.out hb⟩
        · have hne4 : (errI Y == 0) = false := by rw [beq_eq_false_iff_ne]; exact he4
          go_wp2_with fail
          refine (awake_any _).mono ?_
          rintro e y9 ⟨rfl, hb⟩
          go_wp2_with fail
          go_ret
          exact ⟨by simp [go_sem], up_later HB.out hb⟩
      · have hne3 : (errI X == 0) = false := by rw [beq_eq_false_iff_ne]; exact he3
        have BB := YB.out
        have cB := fun i => BB.cell i
        go_wp2_with fail
        clear cB BB
        refine (Lfault_any _ _ _ _ Y _ _ HY.out).mono ?_
        rintro e yf ⟨rfl, hb⟩
        have HB := Lib.hid (up_later HB.out hb)
        have HY := Lib.hid (HY.out.kept hb)
        have YB := Lib.hid (YB.out.kept hb)
        have HU := Lib.hid (HU.out.kept hb)
        clear hb
        by_cases he4 : errI Y = 0
        · rw [he4]
          obtain ⟨w5, w6⟩ := HHY.out he4
          have W5 := Lib.hid w5
          have W6 := Lib.hid w6
          clear he4 w5 w6
          have BB := YB.out
          have cB := fun i => BB.cell i
          go_wp2_with fail
          clear cB BB
          refine (Land_any _ _ _ _ Y _ _ HY.out).mono ?_
          rintro e ya ⟨a1, a2, a3, a4, ca, rfl, hl, hb⟩
          have Hl := Lib.hid hl
          clear hl
          have HB := Lib.hid (up_later HB.out hb)
          have HU := Lib.hid (HU.out.kept hb)
          clear hb
          go_wp2_with fail
          have AA := Hours_any _ _ _ _ Y _ i j k ya Hl.out
          rw [W5.out] at AA
          refine AA.mono ?_
          rintro e yb ⟨uh, rfl, hrh, hb⟩
          obtain ⟨_, rv, rvc, rfl, _, _⟩ := hrh.form
          have HV := Lib.hid hrh
          clear AA Hl hrh
          have HB := Lib.hid (up_later HB.out hb)
          have HU := Lib.hid (HU.out.kept hb)
          clear hb
          go_wp2_with fail
          refine (within_any _ _ _ _ _ HV.out HU.out).mono ?_
          rintro e yd ⟨rfl, hb⟩
          rw [W6.out]
          clear HV HU
          have HB := Lib.hid (up_later HB.out hb)
          clear hb
          go_wp2_with fail
          refine (awake_any _).mono ?_
          rintro e y9 ⟨rfl, hb⟩
          go_wp2_with fail
          go_ret
          exact ⟨by simp [go_sem], up_later HB.out hb⟩
        · have hne4 : (errI Y == 0) = false := by rw [beq_eq_false_iff_ne]; exact he4
          go_wp2_with fail
          refine (awake_any _).mono ?_
          rintro e y9 ⟨rfl, hb⟩
          go_wp2_with fail
          go_ret
          exact ⟨by simp [go_sem], up_later HB.out hb⟩

end Go.Proofs.Ytojbdmdjepgpjaa

namespace Go.Proofs.Ytojbdmdjepgpjaa
open Go.ChangeShapes Go.WideShapes Go.ChangeAt Go.RowKit

set_option maxRecDepth 100000 in
theorem hillMore_lifted (os : Os) (started : os.Started) (H : Type) (enc : TypeId × Value → H) :
    ReturnsInHanded {} Try.checked os 10 .any (Rows.hillMoreSpec.pre6 enc Try.prog Try.f10 Rows.hillMoreRow.domain false) (Rows.hillMoreSpec.post enc Try.prog Try.f10 false true false false) := by
  refine returnsInHanded_of_change (C := Try.checked) own_knob started (by kernel_rfl) Try.func10
    (ChangeSpec.witness6 (enc := enc) (C := Try.checked) false ⟨#[], #[.agg #[.slice Option.none 0 0, .slice Option.none 0 0, .slice Option.none 0 0, .slice Option.none 0 0], .int .u8 0, .int .u8 0, .agg #[.int .i64 0, .int .i64 0, .int .i64 0, .int .i64 0, .int .i64 0, .int .i64 0], .int .u8 0, .int .u8 0], []⟩ 8 (by kernel_rfl) (by kernel_rfl) (by kernel_rfl) (by kernel_rfl)) ?_
  intro W base args ds gs before hval0 hW hcnd _
  have hval : ∀ (j : Nat) t v, Try.f10.params[j]? = some t → args[j]? = some v → Value.okWide Try.prog W .any base t v := hval0
  have hW' := hW
  obtain ⟨p, q, hA0, hV, rfl, hfz, hnd⟩ := hW
  have hA : DataW.TrodAll enc Try.prog W 0 (fun _ => true) true Try.f10.params.toList args.toList ds p := hA0
  rw [Try.params10] at hA hval
  have hlt : ∀ x ∈ p, x.block < W.heap.size := fun x hx => hW'.lt x (List.mem_append_left _ hx)
  have hAk := hA
  obtain ⟨v0, vs0, d0, ds0, p0, q0, hargs, rfl, rfl, h0, r0⟩ := trodAll_cons hA
  obtain ⟨v1, vs1, d1, ds1, p1, q1, rfl, rfl, rfl, h1, r1⟩ := trodAll_cons r0
  obtain ⟨v2, vs2, d2, ds2, p2, q2, rfl, rfl, rfl, h2, r2⟩ := trodAll_cons r1
  obtain ⟨v3, vs3, d3, ds3, p3, q3, rfl, rfl, rfl, h3, r3⟩ := trodAll_cons r2
  obtain ⟨v4, vs4, d4, ds4, p4, q4, rfl, rfl, rfl, h4, r4⟩ := trodAll_cons r3
  obtain ⟨v5, vs5, d5, ds5, p5, q5, rfl, rfl, rfl, h5, r5⟩ := trodAll_cons r4
  obtain ⟨rfl, rfl, rfl⟩ := trodAll_nil r5
  obtain rfl : args = #[v0, v1, v2, v3, v4, v5] := by cases args; simp_all
  obtain ⟨rfl, rfl⟩ := trodVars_none hV
  obtain ⟨a1, rfl, rfl, rfl, w1⟩ := open_int Try.underlying5 (hval 1 5 v1 rfl rfl) h1
  obtain ⟨a2, rfl, rfl, rfl, w2⟩ := open_int Try.underlying5 (hval 2 5 v2 rfl rfl) h2
  obtain ⟨cs3, rfl, _⟩ := okWide_struct und79 (hval 3 79 v3 rfl rfl)
  obtain ⟨fuel3, h3⟩ := h3
  obtain ⟨x3, hx3, _⟩ := open_wl h3
  obtain rfl : cs3 = #[iv x3.x1, iv x3.y1, iv x3.x2, iv x3.y2, iv x3.b, iv x3.t] := by
    have h : cs3.toList = x3.cells := hx3
    cases cs3
    simp [Wl.cells] at h
    rw [h]
  obtain ⟨a4, rfl, rfl, rfl, w4⟩ := open_int Try.underlying5 (hval 4 5 v4 rfl rfl) h4
  obtain ⟨a5, rfl, rfl, rfl, w5⟩ := open_int Try.underlying5 (hval 5 5 v5 rfl rfl) h5
  obtain ⟨cs, rfl, _⟩ := okWide_struct und27 (hval 0 27 v0 rfl rfl)
  obtain ⟨fuel, h0⟩ := h0
  obtain ⟨u1, u2, u3, u4, L, c, hcs, hL⟩ := open_land h0
  obtain rfl : cs = #[u1, u2, u3, u4] := by
    have h : cs.toList = [u1, u2, u3, u4] := hcs
    cases cs
    simp at h
    rw [h]
  clear hA0 hval0 hval hA
  simp only [List.append_nil] at hW'
  simp only [List.append_nil] at hAk hlt
  refine (more_law u1 u2 u3 u4 L c a1 a2 x3 a4 a5 W hL (bounds_u8 w1) (bounds_u8 w2) (bounds_u8 w4) (bounds_u8 w5)).mono fun e W' ⟨he, hg⟩ => ?_
  subst he
  refine ⟨_, rfl, post_below (pv := []) hW' hg (fun _ _ _ => (trodAll_cons_mk (shut_bool Try.underlying4 _) trodAll_mk0)) (fun sp hsp => ?_) (fun _ _ => rfl) (List.append_nil _).symm
    (ok_one (by kernel_rfl) rfl (okWide_bool_mk Try.underlying4 _))⟩
  rw [Try.params10]
  refine args_stay laid_out hg (fun t ht => ?_) hAk hlt sp (fun x hx => hsp x (by first | exact hx | simpa using hx))
  simp only [List.mem_cons, List.not_mem_nil, or_false] at ht
  rcases ht with rfl | rfl | rfl | rfl | rfl | rfl
  · exact rec27
  · exact rec5
  · exact rec5
  · exact rec79
  · exact rec5
  · exact rec5

theorem hillMore_over : Rows.hillMoreRow.holds Try.pinned (OpenSpec.ofChange Rows.hillMoreSpec) :=
  OpenClaim.holds_of_wide 10 Try.f10 rfl rfl rfl rfl rfl rfl rfl ⟨rfl, rfl, rfl, rfl, rfl⟩ rfl rfl rfl rfl rfl (by kernel_rfl) Try.func10 (by kernel_rfl)
    (of_decide_eq_true (by kernel_rfl)) (by unfold Func.isWrapper; first | (rw [if_pos (by decide +kernel)]; kernel_rfl) | (rw [if_neg (by decide +kernel)]; exact ⟨rfl, rfl⟩))
    (fun os started H enc _ => hillMore_lifted os started H enc)

theorem HillMore_holds : Rows.HillMoreSaid := hillMore_over

end Go.Proofs.Ytojbdmdjepgpjaa
