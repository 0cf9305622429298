/-
  HillOrder holds: in another order of ridges and cases Always and Rise are the same. No condition.
-/
import Derived.Test.YtojbdmdjepgpjaaMe
import Derived.Test.YtojbdmdjepgpjaaCv
import Derived.Test.YtojbdmdjepgpjaaVr
import Derived.Test.YtojbdmdjepgpjaaVk
namespace Go.Proofs.Ytojbdmdjepgpjaa
open Go.RowKit

theorem own_rot {α : Type} {w : World} {b e sz r : Nat} {v : Value} {cells : α → List Value} {l : List α} (h : w.ownsRow b e sz v ((l.drop r).length + (l.take r).length) ((l.drop r).flatMap cells ++ (l.take r).flatMap cells)) :
    w.ownsRow b e sz v (rot r l).length ((rot r l).flatMap cells) := by
  unfold rot
  rw [List.length_append, List.flatMap_append]
  exact h
theorem rot_len2 {α : Type} {r : Nat} {l : List α} : (l.drop r).length + (l.take r).length = l.length := by
  rw [List.length_drop, List.length_take]
  omega


set_option maxRecDepth 100000 in
set_option maxHeartbeats 4000000 in
theorem order_law (v1 v2 v3 v4 : Value) (L : Ld) (c : List (Value × List Cl)) (x y : Int) (w : World) (hL : LandAny w v1 v2 v3 v4 L c) (hx : 0 ≤ x ∧ x ≤ 255) (hy : 0 ≤ y ∧ y ≤ 255) :
    Calls Try.prog 14 #[.agg #[v1, v2, v3, v4], .int .u8 x, .int .u8 y] w fun e w' => e = .returned (.bool true) ∧ Below w.heap.size w w' := by
  obtain ⟨hy0, hy1⟩ := hy
  obtain ⟨i2, hi2, hz20, hz21, hz22⟩ := info_parts info79
  obtain ⟨i3, hi3, hz30, hz31, hz32⟩ := info_parts info80
  have HA := Lib.hid hL
  obtain ⟨A1, cap1, rfl, _, _⟩ := hL.st.form
  obtain ⟨A2, cap2, rfl, _, _⟩ := hL.rg.form
  obtain ⟨A3, cap3, rfl, _, _⟩ := hL.cs.form
  obtain ⟨A4, cap4, rfl, _, _⟩ := hL.sn.form
  have Hcl := Lib.hid (show c.length = L.cs.length by rw [← hL.eq]; simp)
  clear hL
  cases hr : readyB L
  case false =>
    have Hr := Lib.hid hr
    clear hr
    go_enter Try.func14, Try.ntmps14
    go_wp2_with fail
    refine (Lready_any _ _ _ _ L c _ (HA.out.kept (up_alloc up0 _))).mono ?_
    rintro e y0 ⟨rfl, hb⟩
    rw [Hr.out]
    go_wp2_with fail
    refine (awake_any _).mono ?_
    rintro e y1 ⟨rfl, hb2⟩
    go_wp2_with fail
    go_ret
    exact ⟨rfl, up_later (up_later (up_alloc up0 _) hb) hb2⟩
  have hq := hr
  simp only [readyB, Bool.and_eq_true, beq_iff_eq, decide_eq_true_eq] at hq
  obtain ⟨⟨hth, he⟩, h1n⟩ := hq
  have hT := HA.out.thin hth
  have hok := land_ok he
  obtain ⟨_, hl6, hg6, hc0, hc4, hs0, hs12⟩ := hok.len
  have hcl := Hcl.out
  obtain ⟨i, hi, hin⟩ := nat_mod (x := x) (n := L.st.length) (by omega)
  obtain ⟨j, hj, hjn⟩ := nat_mod (x := x % (L.st.length : Int) + 1 + x / 8 % ((L.st.length : Int) - 1)) (n := L.st.length) (by omega)
  have hij : i ≠ j := by
    have h := mod_ne (n := (L.st.length : Int)) (x := x) (by omega)
    rw [hi] at h hj
    rw [hj] at h
    omega
  have o1 : ∀ k h : Nat, k < L.cs.length → h < L.sn.length → openI L k h [(i : Int), (j : Int)] = 0 := fun k h hk hh => open_zero he hin hjn hk hh hij
  have Hr := Lib.hid hr
  have HT0 := Lib.hid hT
  have Hpi := Lib.hid (show (pairI (L.st.length : Int) x).1 = i from hi)
  have Hpj := Lib.hid (show (pairI (L.st.length : Int) x).2 = j from hj)
  have hn1 : L.st.length ≤ 1000 := by omega
  have i0 : (0 : Int) ≤ (i : Int) := by omega
  have i1 : (i : Int) < (L.st.length : Int) := by omega
  have j0 : (0 : Int) ≤ (j : Int) := by omega
  have j1 : (j : Int) < (L.st.length : Int) := by omega
  have He := Lib.hid he
  have Hok := Lib.hid hok
  obtain ⟨k, hk, hkn⟩ := nat_mod (x := y) (n := c.length) (by omega)
  have hkc : k < L.cs.length := by omega
  have Hk := Lib.hid hk
  have cz : ¬ (c.length : Int) = 0 := by omega
  have cz' : ((c.length : Int) == 0) = false := by rw [beq_eq_false_iff_ne]; omega
  have k0 : (0 : Int) ≤ (k : Int) := by omega
  have k1 : (k : Int) < (c.length : Int) := by omega
  obtain ⟨al, hal⟩ : ∃ l, l = (alwaysE L i j).1 := ⟨_, rfl⟩
  have hae : alwaysE L i j = (al, 0) := by
    have := o1 0 0 (by omega) (by omega)
    rw [hal]
    unfold alwaysE
    rw [if_neg (by simpa using this)]
  have HAE := Lib.hid hae
  have HAR := Lib.hid (fun r : Nat => show alwaysE (rotLd r k L) i j = (al, 0) by rw [always_rot]; exact hae)
  have HRR := Lib.hid (fun r : Nat => show riseI (rotLd r k L) i j = riseI L i j from rise_rot)
  have hcl1 : c.length ≤ 1000 := hT.cs.form.1
  obtain ⟨_, _, _, q3, hcp3, _⟩ := hT.cs.form
  cases q3
  obtain ⟨_, _, _, q2, hcp2, _⟩ := hT.rg.form
  cases q2
  clear hr hT hok hi hj hth he hal hae hcl
  go_enter Try.func14, Try.ntmps14
  go_wp2_with fail
  have BX := Lib.hid (Box.new (w := w) (t := 27) (cs := #[.slice A1 L.st.length cap1, .slice A2 L.rg.length cap2, .slice A3 c.length cap3, .slice A4 L.sn.length cap4]) rfl)
  have HB := Lib.hid (up_alloc (up0 (w := w)) (.cells #[.slice A1 L.st.length cap1, .slice A2 L.rg.length cap2, .slice A3 c.length cap3, .slice A4 L.sn.length cap4] 27))
  have HT := Lib.hid (HT0.out.kept HB.out)
  refine (Lready_any _ _ _ _ L c _ (HA.out.kept HB.out)).mono ?_
  rintro e y0 ⟨rfl, hb⟩
  rw [Hr.out]
  have HB := Lib.hid (up_later HB.out hb)
  have HT := Lib.hid (HT.out.kept hb)
  have BX := Lib.hid (BX.out.kept hb)
  clear hb
  have BB := BX.out
  have cB := fun i => BB.cell i
  go_wp2_with fail
  clear cB BB
  refine (Lpair_any _ L.st.length cap1 _ _ _ x _ h1n hn1 hx).mono ?_
  rintro e y1 ⟨rfl, hb⟩
  rw [Hpi.out, Hpj.out]
  have HB := Lib.hid (up_later HB.out hb)
  have HT := Lib.hid (HT.out.kept hb)
  have BX := Lib.hid (BX.out.kept hb)
  clear hb
  have BB := BX.out
  have cB := fun i => BB.cell i
  go_wp2_with fail
  clear cB BB
  refine (copied_any _ _ _ _ L c _ HT.out).mono ?_
  rintro e y2 ⟨u1, u2, u3, u4, cx, rfl, hcop, hb⟩
  obtain ⟨F1, m1, p1, rfl⟩ := own_form hcop.o1
  obtain ⟨F2, m2, p2, rfl⟩ := own_form hcop.o2
  obtain ⟨F3, m3, p3, rfl⟩ := own_form hcop.o3
  obtain ⟨F4, m4, p4, rfl⟩ := own_form hcop.o4
  have hb0 := up_alloc hb (.cells #[.slice F1 m1 p1, .slice F2 m2 p2, .slice F3 m3 p3, .slice F4 m4 p4] 27)
  have hc0 := hcop.kept (up_alloc up0 (.cells #[.slice F1 m1 p1, .slice F2 m2 p2, .slice F3 m3 p3, .slice F4 m4 p4] 27))
  have HO1 := Lib.hid hc0.o1
  have HO2 := Lib.hid hc0.o2
  have HO4 := Lib.hid hc0.o4
  have XB := Lib.hid (Box.new (w := y2) (t := 27) (cs := #[.slice F1 m1 p1, .slice F2 m2 p2, .slice F3 m3 p3, .slice F4 m4 p4]) rfl)
  have hyn : w.heap.size + 1 ≤ y2.heap.size := by
    have h1 := (up_later HB.out hb).size
    have h2 := BX.out.lt
    have h3 := hb.size
    omega
  have HT := Lib.hid (HT.out.kept hb0)
  have BX := Lib.hid (BX.out.kept hb0)
  have HB := Lib.hid (up_later HB.out hb0)
  have onec : ∀ x ∈ c, x.1.oneCell' = true := fun x hx => by
    obtain ⟨_, _, _, e, _, _⟩ := (HT0.out.each x hx).form
    rw [e]
    simp [Value.oneCell']
  clear hb hb0 hcop hc0
  by_cases hn : L.rg.length = 0
  · have hng : ¬ (0 : Int) < (L.rg.length : Int) := by omega
    have BB := BX.out
    have cB := fun i => BB.cell i
    obtain ⟨r, hr0⟩ : ∃ r, r = 0 := ⟨_, rfl⟩
    have hrg : rot r L.rg = L.rg := by rw [hr0, List.eq_nil_of_length_eq_zero hn]; rfl
    have HOR := Lib.hid (show (y2.alloc (.cells #[.slice F1 m1 p1, .slice F2 m2 p2, .slice F3 m3 p3, .slice F4 m4 p4] 27)).ownsRow y1.heap.size 79 6 (.slice F2 m2 p2) (rot r L.rg).length ((rot r L.rg).flatMap Wl.cells) from by rw [hrg]; exact HO2.out)
    clear hn hr0 hrg HO2
    go_upto_region 10 with fail
    clear cB BB
    generalize hws : y2.alloc (.cells #[.slice F1 m1 p1, .slice F2 m2 p2, .slice F3 m3 p3, .slice F4 m4 p4] 27) = ws at HO1 HOR HO4 XB HB HT BX ⊢
    clear hws
    obtain ⟨Ar, hA⟩ : ∃ A, A = F2 := ⟨_, rfl⟩
    obtain ⟨mr, hm⟩ : ∃ A, A = m2 := ⟨_, rfl⟩
    obtain ⟨pr, hp⟩ : ∃ A, A = p2 := ⟨_, rfl⟩
    rw [← hA, ← hm, ← hp] at HOR XB
    clear hA hm hp
    obtain ⟨V3, v3, v4⟩ := rows_from (P := Try.prog) (cells := fun x : Value × List Cl => [x.1]) (sz := 1) (A := A3) (cap := cap3) (l := c) (r := k) Try.underlying24 hi3 hz31 (by omega) .i64
    obtain ⟨V4, v5, v6⟩ := rows_upto (P := Try.prog) (cells := fun x : Value × List Cl => [x.1]) (sz := 1) (A := A3) (cap := cap3) (l := c) (r := k) Try.underlying24 hi3 (by omega) hcp3 .i64
    have HV3 := Lib.hid v3
    have HV4 := Lib.hid v4
    have HV5 := Lib.hid v5
    have HV6 := Lib.hid v6
    clear v3 v4 v5 v6
    rw [Hk.out]
    have bx := BX.out
    have xb := XB.out
    apply wp_region_kill 12 10 (fun d => d == 0 || d == 5) [(FactK.sl ws.heap.size 0 80 #[]), (FactK.eq _), (FactK.eq _), (FactK.eq _), (FactK.eq V3), (FactK.own ws.heap.size 80 1 (c.drop k).length ((c.drop k).flatMap fun x => [x.1])), (FactK.eq _), (FactK.eq _), (FactK.eq _), (FactK.eq V4), (FactK.own ws.heap.size 80 1 (rot k c).length ((rot k c).flatMap fun x => [x.1])), (FactK.eq _)]
    case hm => kernel_rfl
    case hB => kernel_rfl
    case hk => kernel_rfl
    case hA => (intro vs; simp only [List.take_succ_cons, List.take_zero, putAll, if_true, Act.put, List.setIfInBounds_toArray, List.set_cons_zero, List.set_cons_succ]; exact rfl)
    case hstep =>
      intro vs
      refine And.intro (fun _ w hw hd => ?_) ?_
      · refine ⟨rfl, ?_⟩
        simp only [Gives]
        go_simp
        exact ⟨(Below.refl _ _).alloc (Nat.le_refl _) _, ⟨_, rfl, Box.new rfl, hw.size⟩⟩
      refine And.intro (fun _ w hw hd => ?_) ?_
      · refine ⟨rfl, ?_⟩
        simp only [Gives]
        go_simp
        exact ⟨Below.refl _ _, rfl⟩
      refine And.intro (fun _ w hw hd => ?_) ?_
      · have d1 := hd 1 (by decide) rfl
        change vs 1 = _ at d1
        refine ⟨rfl, ?_⟩
        have c_bx := fun i => (bx.kept hw).cell i
        have c_xb := fun i => (xb.kept hw).cell i
        simp only [Gives]
        go_simp
        exact ⟨Below.refl _ _, rfl⟩
      refine And.intro (fun _ w hw hd => ?_) ?_
      · refine ⟨rfl, ?_⟩
        simp only [Gives]
        go_simp
        exact ⟨Below.refl _ _, rfl⟩
      refine And.intro (fun _ w hw hd => ?_) ?_
      · have d2 := hd 2 (by decide) rfl
        change vs 2 = _ at d2
        have d3 := hd 3 (by decide) rfl
        change vs 3 = _ at d3
        refine ⟨rfl, ?_⟩
        simp only [Gives]
        refine gives_slice 24 (.tmp 62) (some (.tmp 63)) none rfl (.slice A3 c.length cap3) V3 (some (.int .i64 k)) none ?_ ?_ rfl (HV3.out _) ⟨Below.refl _ _, rfl⟩
        all_goals (go_simp)
      refine And.intro (fun _ w hw hd => ?_) ?_
      · have d0 := hd 0 (by decide) rfl
        obtain ⟨n0, d0, N0, K0⟩ := d0
        have d4 := hd 4 (by decide) rfl
        change vs 4 = _ at d4
        refine ⟨rfl, ?_⟩
        simp only [Gives]
        obtain ⟨Aa, ma, pa, wa, hra, hoa, hba⟩ := run_append_fresh (P := Try.prog) w _ 24 24 80 i3 _ 1 24 Try.underlying24 hi3 hz30 hz31 hz32 rfl (by decide) n0 N0 K0 (fun x : Value × List Cl => [x.1]) (c.drop k) _ (HV4.out _ (HT.out.cs.kept hw)) (fun _ => rfl) (by rw [List.length_drop]; omega)
        refine gives_append (.tmp 60) (.tmp 64) 24 rfl _ _ _ ?_ ?_ hra ⟨hba, ⟨_, _, _, rfl, hoa⟩⟩
        all_goals (go_simp)
      refine And.intro (fun _ w hw hd => ?_) ?_
      · refine ⟨rfl, ?_⟩
        simp only [Gives]
        go_simp
        exact ⟨Below.refl _ _, rfl⟩
      refine And.intro (fun _ w hw hd => ?_) ?_
      · have d6 := hd 6 (by decide) rfl
        change vs 6 = _ at d6
        refine ⟨rfl, ?_⟩
        have c_bx := fun i => (bx.kept hw).cell i
        have c_xb := fun i => (xb.kept hw).cell i
        simp only [Gives]
        go_simp
        exact ⟨Below.refl _ _, rfl⟩
      refine And.intro (fun _ w hw hd => ?_) ?_
      · refine ⟨rfl, ?_⟩
        simp only [Gives]
        go_simp
        exact ⟨Below.refl _ _, rfl⟩
      refine And.intro (fun _ w hw hd => ?_) ?_
      · have d7 := hd 7 (by decide) rfl
        change vs 7 = _ at d7
        have d8 := hd 8 (by decide) rfl
        change vs 8 = _ at d8
        refine ⟨rfl, ?_⟩
        simp only [Gives]
        refine gives_slice 24 (.tmp 67) none (some (.tmp 68)) rfl (.slice A3 c.length cap3) V4 none (some (.int .i64 k)) ?_ rfl ?_ (HV5.out _) ⟨Below.refl _ _, rfl⟩
        all_goals (go_simp)
      refine And.intro (fun h => absurd rfl h) ?_
      refine And.intro (fun _ w hw hd => ?_) ?_
      · refine ⟨rfl, ?_⟩
        simp only [Gives]
        go_simp
        exact ⟨Below.refl _ _, rfl⟩
      exact trivial
    case hp =>
      intro vs o ho w hw hd
      obtain rfl := Option.some.inj ho
      have d5 := hd 5 (by decide) rfl
      obtain ⟨Af, mf, pf, d5, O5⟩ := d5
      have d9 := hd 9 (by decide) rfl
      change vs 9 = _ at d9
      refine ⟨rfl, ?_⟩
      simp only [Gives]
      obtain ⟨v', w', hra, hoa, hga, hat⟩ := run_append_rows (P := Try.prog) (w := w) _ 24 24 80 i3 _ 1 24 Try.underlying24 hi3 hz30 hz31 hz32 rfl (by decide) _ _ _ O5 (fun x : Value × List Cl => [x.1]) (c.take k) _ (HV6.out _ (HT.out.cs.kept hw)) (fun _ => rfl) (fun x hx y hy => (by obtain rfl := List.mem_singleton.1 hy; exact onec x (List.mem_of_mem_take hx))) (by rw [rot_len2]; unfold maxLen; omega) (by rw [rot_len2]; omega) hw.size
      obtain ⟨Ag, mg, pg, rfl⟩ := own_form hoa
      refine gives_append (.tmp 65) (.tmp 69) 24 rfl _ _ _ ?_ ?_ hra ⟨hw.grown hga hw.size (fun b e => (O5.lt b e).1), ⟨_, _, _, rfl, own_rot hoa⟩⟩
      all_goals (go_simp)
    case hfree => rfl
    intro vs wt hw hd
    have d1 := hd 1 (by decide) rfl
    change vs 1 = _ at d1
    have d2 := hd 2 (by decide) rfl
    change vs 2 = _ at d2
    have d3 := hd 3 (by decide) rfl
    change vs 3 = _ at d3
    have d4 := hd 4 (by decide) rfl
    change vs 4 = _ at d4
    have d6 := hd 6 (by decide) rfl
    change vs 6 = _ at d6
    have d7 := hd 7 (by decide) rfl
    change vs 7 = _ at d7
    have d8 := hd 8 (by decide) rfl
    change vs 8 = _ at d8
    have d9 := hd 9 (by decide) rfl
    change vs 9 = _ at d9
    have d10 := hd 10 (by decide) rfl
    obtain ⟨Ac, mc, pc, d10, OC⟩ := d10
    have d11 := hd 11 (by decide) rfl
    change vs 11 = _ at d11
    simp only [d1, d2, d3, d4, d6, d7, d8, d9, d10, d11, List.drop_succ_cons, List.drop_zero]
    have bx := bx.kept hw
    have xb := xb.kept hw
    clear hd d1 d2 d3 d4 d6 d7 d8 d9 d10 d11
    have cx := fun i => xb.cell i
    have fx := fun i => xb.free i
    go_upto_region 11 with fail
    clear cx fx
    have xb2 := xb.put 2 (.slice Ac mc pc)
    simp only [List.setIfInBounds_toArray, List.set_cons_succ, List.set_cons_zero] at xb2
    have HB := Lib.hid (up_put (up_later HB.out hw) (p := ⟨y2.heap.size, 2, none⟩) (by simp; omega) (.slice Ac mc pc))
    have BX := Lib.hid (bx.far (p := ⟨y2.heap.size, 2, none⟩) (by simp; omega) (.slice Ac mc pc))
    have l1 : RowsAt (wt.setCell ⟨y2.heap.size, 2, none⟩ (.slice Ac mc pc)) (.slice F1 m1 p1) 4 St.cells L.st := RowsAt.of_ownM (fun _ => rfl) (own_set (own_below HO1.out hw) xb (by decide)) rfl (by omega)
    have l2 : RowsAt (wt.setCell ⟨y2.heap.size, 2, none⟩ (.slice Ac mc pc)) (.slice Ar mr pr) 6 Wl.cells (rot r L.rg) := RowsAt.of_ownM (fun _ => rfl) (own_set (own_below HOR.out hw) xb (by decide)) rfl (by rw [len_rot]; omega)
    have l3 : RowsAt (wt.setCell ⟨y2.heap.size, 2, none⟩ (.slice Ac mc pc)) (.slice Ac mc pc) 1 (fun x : Value × List Cl => [x.1]) (rot k c) := RowsAt.of_ownM (fun _ => rfl) (own_set OC xb (by decide)) rfl (by rw [len_rot]; omega)
    have l4 : RowsAt (wt.setCell ⟨y2.heap.size, 2, none⟩ (.slice Ac mc pc)) (.slice F4 m4 p4) 3 Sn.cells L.sn := RowsAt.of_ownM (fun _ => rfl) (own_set (own_below HO4.out hw) xb (by decide)) rfl (by omega)
    have l5 : (rot k c).map (·.2) = rot k L.cs := by
      unfold rot
      rw [List.map_append, List.map_drop, List.map_take, HT0.out.eq]
    have HX := Lib.hid (show LandAt (wt.setCell ⟨y2.heap.size, 2, none⟩ (.slice Ac mc pc)) (.slice F1 m1 p1) (.slice Ar mr pr) (.slice Ac mc pc) (.slice F4 m4 p4) (rotLd r k L) (rot k c) from
      ⟨l1, l2, l3, l5, fun x hx => (HT0.out.kept HB.out).each x (mem_rot.1 hx), l4⟩)
    clear l1 l2 l3 l4 l5
    have HT := Lib.hid (HT0.out.kept HB.out)
    have XB := Lib.hid xb2
    clear xb xb2 bx HO1 HOR HO4 hw OC HV3 HV4 HV5 HV6
    generalize hwq : wt.setCell ⟨y2.heap.size, 2, none⟩ (.slice Ac mc pc) = wq at HB BX HX HT XB ⊢
    clear hwq
    have BB := BX.out
    have cB := fun i => BB.cell i
    go_wp2_with fail
    clear cB BB
    refine (Land_any _ _ _ _ L _ _ HT.out).mono ?_
    rintro e ya ⟨a1, a2, a3, a4, ca, rfl, hl, hb⟩
    have Hl := Lib.hid hl
    clear hl
    have HB := Lib.hid (up_later HB.out hb)
    have HT := Lib.hid (HT.out.kept hb)
    have BX := Lib.hid (BX.out.kept hb)
    have HX := Lib.hid (HX.out.kept hb)
    have XB := Lib.hid (XB.out.kept hb)
    clear hb
    go_wp2_with fail
    have AA := Always_any _ _ _ _ L _ i j ya Hl.out
    rw [HAE.out] at AA
    refine AA.mono ?_
    rintro e yb ⟨uh, rfl, hrh, hb⟩
    obtain ⟨_, ra, rcap, rfl, _, _⟩ := hrh.form
    have HU := Lib.hid hrh
    clear AA Hl hrh
    have HB := Lib.hid (up_later HB.out hb)
    have HT := Lib.hid (HT.out.kept hb)
    have BX := Lib.hid (BX.out.kept hb)
    have HX := Lib.hid (HX.out.kept hb)
    have XB := Lib.hid (XB.out.kept hb)
    clear hb
    have BB := XB.out
    have cB := fun i => BB.cell i
    go_wp2_with fail
    clear cB BB
    refine (Land_any _ _ _ _ (rotLd r k L) _ _ HX.out).mono ?_
    rintro e ya ⟨a1, a2, a3, a4, ca, rfl, hl, hb⟩
    have Hl := Lib.hid hl
    clear hl
    have HB := Lib.hid (up_later HB.out hb)
    have HT := Lib.hid (HT.out.kept hb)
    have BX := Lib.hid (BX.out.kept hb)
    have HX := Lib.hid (HX.out.kept hb)
    have XB := Lib.hid (XB.out.kept hb)
    have HU := Lib.hid (HU.out.kept hb)
    clear hb
    go_wp2_with fail
    have AA := Always_any _ _ _ _ (rotLd r k L) _ i j ya Hl.out
    rw [HAR.out r] at AA
    refine AA.mono ?_
    rintro e yb ⟨uk, rfl, hrk, hb⟩
    obtain ⟨_, rb, rcbp, rfl, _, _⟩ := hrk.form
    have HV := Lib.hid hrk
    clear AA Hl hrk
    have HB := Lib.hid (up_later HB.out hb)
    have HT := Lib.hid (HT.out.kept hb)
    have BX := Lib.hid (BX.out.kept hb)
    have HX := Lib.hid (HX.out.kept hb)
    have XB := Lib.hid (XB.out.kept hb)
    have HU := Lib.hid (HU.out.kept hb)
    clear hb
    have BB := BX.out
    have cB := fun i => BB.cell i
    go_wp2_with fail
    clear cB BB
    refine (Land_any _ _ _ _ L _ _ HT.out).mono ?_
    rintro e ya ⟨a1, a2, a3, a4, ca, rfl, hl, hb⟩
    have Hl := Lib.hid hl
    clear hl
    have HB := Lib.hid (up_later HB.out hb)
    have HX := Lib.hid (HX.out.kept hb)
    have XB := Lib.hid (XB.out.kept hb)
    have HU := Lib.hid (HU.out.kept hb)
    have HV := Lib.hid (HV.out.kept hb)
    clear hb
    go_wp2_with fail
    refine (Rise_any _ _ _ _ L _ i j ya Hl.out).mono ?_
    rintro e yb ⟨rfl, hb⟩
    clear Hl
    have HB := Lib.hid (up_later HB.out hb)
    have HX := Lib.hid (HX.out.kept hb)
    have XB := Lib.hid (XB.out.kept hb)
    have HU := Lib.hid (HU.out.kept hb)
    have HV := Lib.hid (HV.out.kept hb)
    clear hb
    have BB := XB.out
    have cB := fun i => BB.cell i
    go_wp2_with fail
    clear cB BB
    refine (Land_any _ _ _ _ (rotLd r k L) _ _ HX.out).mono ?_
    rintro e ya ⟨a1, a2, a3, a4, ca, rfl, hl, hb⟩
    have Hl := Lib.hid hl
    clear hl
    have HB := Lib.hid (up_later HB.out hb)
    have HU := Lib.hid (HU.out.kept hb)
    have HV := Lib.hid (HV.out.kept hb)
    clear hb
    go_wp2_with fail
    have AA := Rise_any _ _ _ _ (rotLd r k L) _ i j ya Hl.out
    rw [HRR.out r] at AA
    refine AA.mono ?_
    rintro e yb ⟨rfl, hb⟩
    clear AA Hl
    have HB := Lib.hid (up_later HB.out hb)
    have HU := Lib.hid (HU.out.kept hb)
    have HV := Lib.hid (HV.out.kept hb)
    clear hb
    go_wp2_with fail
    refine (ints_any _ _ _ _ _ HU.out HV.out).mono ?_
    rintro e yc ⟨rfl, hb⟩
    have HB := Lib.hid (up_later HB.out hb)
    clear hb
    rw [beq_self_eq_true]
    go_wp2_with fail
    refine (awake_any _).mono ?_
    rintro e y9 ⟨rfl, hb⟩
    go_wp2_with fail
    go_ret
    exact ⟨by simp [go_sem], up_later HB.out hb⟩
  · have hn0 : 0 < L.rg.length := by omega
    obtain ⟨r, hr, hrn⟩ := nat_mod (x := y) (n := L.rg.length) (by omega)
    have HR := Lib.hid hr
    have hnp : (0 : Int) < (L.rg.length : Int) := by omega
    have nz : ¬ (L.rg.length : Int) = 0 := by omega
    have nz' : ((L.rg.length : Int) == 0) = false := by rw [beq_eq_false_iff_ne]; omega
    have r0 : (0 : Int) ≤ (r : Int) := by omega
    have r1 : (r : Int) < (L.rg.length : Int) := by omega
    clear hr hn HO2
    obtain ⟨V3, v3, v4⟩ := rows_from (P := Try.prog) (cells := Wl.cells) (sz := 6) (A := A2) (cap := cap2) (l := L.rg) (r := r) Try.underlying23 hi2 hz21 (by omega) .i64
    obtain ⟨V4, v5, v6⟩ := rows_upto (P := Try.prog) (cells := Wl.cells) (sz := 6) (A := A2) (cap := cap2) (l := L.rg) (r := r) Try.underlying23 hi2 (by omega) hcp2 .i64
    have HV3 := Lib.hid v3
    have HV4 := Lib.hid v4
    have HV5 := Lib.hid v5
    have HV6 := Lib.hid v6
    clear v3 v4 v5 v6
    have BB := BX.out
    have cB := fun i => BB.cell i
    go_upto_region 8 with fail
    clear cB BB
    rw [HR.out]
    generalize hws : y2.alloc (.cells #[.slice F1 m1 p1, .slice F2 m2 p2, .slice F3 m3 p3, .slice F4 m4 p4] 27) = ws at HO1 HO4 XB HB HT BX ⊢
    clear hws
    have bx := BX.out
    have xb := XB.out
    apply wp_region_kill 12 10 (fun d => d == 0 || d == 5) [(FactK.sl ws.heap.size 0 79 #[]), (FactK.eq _), (FactK.eq _), (FactK.eq _), (FactK.eq V3), (FactK.own ws.heap.size 79 6 (L.rg.drop r).length ((L.rg.drop r).flatMap Wl.cells)), (FactK.eq _), (FactK.eq _), (FactK.eq _), (FactK.eq V4), (FactK.own ws.heap.size 79 6 (rot r L.rg).length ((rot r L.rg).flatMap Wl.cells)), (FactK.eq _)]
    case hm => kernel_rfl
    case hB => kernel_rfl
    case hk => kernel_rfl
    case hA => (intro vs; simp only [List.take_succ_cons, List.take_zero, putAll, if_true, Act.put, List.setIfInBounds_toArray, List.set_cons_zero, List.set_cons_succ]; exact rfl)
    case hstep =>
      intro vs
      refine And.intro (fun _ w hw hd => ?_) ?_
      · refine ⟨rfl, ?_⟩
        simp only [Gives]
        go_simp
        exact ⟨(Below.refl _ _).alloc (Nat.le_refl _) _, ⟨_, rfl, Box.new rfl, hw.size⟩⟩
      refine And.intro (fun _ w hw hd => ?_) ?_
      · refine ⟨rfl, ?_⟩
        simp only [Gives]
        go_simp
        exact ⟨Below.refl _ _, rfl⟩
      refine And.intro (fun _ w hw hd => ?_) ?_
      · have d1 := hd 1 (by decide) rfl
        change vs 1 = _ at d1
        refine ⟨rfl, ?_⟩
        have c_bx := fun i => (bx.kept hw).cell i
        have c_xb := fun i => (xb.kept hw).cell i
        simp only [Gives]
        go_simp
        exact ⟨Below.refl _ _, rfl⟩
      refine And.intro (fun _ w hw hd => ?_) ?_
      · refine ⟨rfl, ?_⟩
        simp only [Gives]
        go_simp
        exact ⟨Below.refl _ _, rfl⟩
      refine And.intro (fun _ w hw hd => ?_) ?_
      · have d2 := hd 2 (by decide) rfl
        change vs 2 = _ at d2
        have d3 := hd 3 (by decide) rfl
        change vs 3 = _ at d3
        refine ⟨rfl, ?_⟩
        simp only [Gives]
        refine gives_slice 23 (.tmp 44) (some (.tmp 45)) none rfl (.slice A2 L.rg.length cap2) V3 (some (.int .i64 r)) none ?_ ?_ rfl (HV3.out _) ⟨Below.refl _ _, rfl⟩
        all_goals (go_simp)
      refine And.intro (fun _ w hw hd => ?_) ?_
      · have d0 := hd 0 (by decide) rfl
        obtain ⟨n0, d0, N0, K0⟩ := d0
        have d4 := hd 4 (by decide) rfl
        change vs 4 = _ at d4
        refine ⟨rfl, ?_⟩
        simp only [Gives]
        obtain ⟨Aa, ma, pa, wa, hra, hoa, hba⟩ := run_append_fresh (P := Try.prog) w _ 23 23 79 i2 _ 6 48 Try.underlying23 hi2 hz20 hz21 hz22 rfl (by decide) n0 N0 K0 Wl.cells (L.rg.drop r) _ (HV4.out _ (HT.out.rg.kept hw)) (fun _ => rfl) (by rw [List.length_drop]; omega)
        refine gives_append (.tmp 42) (.tmp 46) 23 rfl _ _ _ ?_ ?_ hra ⟨hba, ⟨_, _, _, rfl, hoa⟩⟩
        all_goals (go_simp)
      refine And.intro (fun _ w hw hd => ?_) ?_
      · refine ⟨rfl, ?_⟩
        simp only [Gives]
        go_simp
        exact ⟨Below.refl _ _, rfl⟩
      refine And.intro (fun _ w hw hd => ?_) ?_
      · have d6 := hd 6 (by decide) rfl
        change vs 6 = _ at d6
        refine ⟨rfl, ?_⟩
        have c_bx := fun i => (bx.kept hw).cell i
        have c_xb := fun i => (xb.kept hw).cell i
        simp only [Gives]
        go_simp
        exact ⟨Below.refl _ _, rfl⟩
      refine And.intro (fun _ w hw hd => ?_) ?_
      · refine ⟨rfl, ?_⟩
        simp only [Gives]
        go_simp
        exact ⟨Below.refl _ _, rfl⟩
      refine And.intro (fun _ w hw hd => ?_) ?_
      · have d7 := hd 7 (by decide) rfl
        change vs 7 = _ at d7
        have d8 := hd 8 (by decide) rfl
        change vs 8 = _ at d8
        refine ⟨rfl, ?_⟩
        simp only [Gives]
        refine gives_slice 23 (.tmp 49) none (some (.tmp 50)) rfl (.slice A2 L.rg.length cap2) V4 none (some (.int .i64 r)) ?_ rfl ?_ (HV5.out _) ⟨Below.refl _ _, rfl⟩
        all_goals (go_simp)
      refine And.intro (fun h => absurd rfl h) ?_
      refine And.intro (fun _ w hw hd => ?_) ?_
      · refine ⟨rfl, ?_⟩
        simp only [Gives]
        go_simp
        exact ⟨Below.refl _ _, rfl⟩
      exact trivial
    case hp =>
      intro vs o ho w hw hd
      obtain rfl := Option.some.inj ho
      have d5 := hd 5 (by decide) rfl
      obtain ⟨Af, mf, pf, d5, O5⟩ := d5
      have d9 := hd 9 (by decide) rfl
      change vs 9 = _ at d9
      refine ⟨rfl, ?_⟩
      simp only [Gives]
      obtain ⟨v', w', hra, hoa, hga, hat⟩ := run_append_rows (P := Try.prog) (w := w) _ 23 23 79 i2 _ 6 48 Try.underlying23 hi2 hz20 hz21 hz22 rfl (by decide) _ _ _ O5 Wl.cells (L.rg.take r) _ (HV6.out _ (HT.out.rg.kept hw)) (fun _ => rfl) (fun x hx y hy => (by simp only [Wl.cells, List.mem_cons, List.not_mem_nil, or_false] at hy; rcases hy with rfl | rfl | rfl | rfl | rfl | rfl <;> rfl)) (by rw [rot_len2]; unfold maxLen; omega) (by rw [rot_len2]; omega) hw.size
      obtain ⟨Ag, mg, pg, rfl⟩ := own_form hoa
      refine gives_append (.tmp 47) (.tmp 51) 23 rfl _ _ _ ?_ ?_ hra ⟨hw.grown hga hw.size (fun b e => (O5.lt b e).1), ⟨_, _, _, rfl, own_rot hoa⟩⟩
      all_goals (go_simp)
    case hfree => rfl
    intro vs wt hw hd
    have d1 := hd 1 (by decide) rfl
    change vs 1 = _ at d1
    have d2 := hd 2 (by decide) rfl
    change vs 2 = _ at d2
    have d3 := hd 3 (by decide) rfl
    change vs 3 = _ at d3
    have d4 := hd 4 (by decide) rfl
    change vs 4 = _ at d4
    have d6 := hd 6 (by decide) rfl
    change vs 6 = _ at d6
    have d7 := hd 7 (by decide) rfl
    change vs 7 = _ at d7
    have d8 := hd 8 (by decide) rfl
    change vs 8 = _ at d8
    have d9 := hd 9 (by decide) rfl
    change vs 9 = _ at d9
    have d10 := hd 10 (by decide) rfl
    obtain ⟨Ar, mr, pr, d10, OC⟩ := d10
    have d11 := hd 11 (by decide) rfl
    change vs 11 = _ at d11
    simp only [d1, d2, d3, d4, d6, d7, d8, d9, d10, d11, List.drop_succ_cons, List.drop_zero]
    have bx := bx.kept hw
    have xb := xb.kept hw
    clear hd d1 d2 d3 d4 d6 d7 d8 d9 d10 d11
    have cx := fun i => xb.cell i
    have fx := fun i => xb.free i
    go_upto_region 9 with fail
    clear cx fx
    have xb2 := xb.put 1 (.slice Ar mr pr)
    simp only [List.setIfInBounds_toArray, List.set_cons_succ, List.set_cons_zero] at xb2
    have HB := Lib.hid (up_put (up_later HB.out hw) (p := ⟨y2.heap.size, 1, none⟩) (by simp; omega) (.slice Ar mr pr))
    have BX := Lib.hid (bx.far (p := ⟨y2.heap.size, 1, none⟩) (by simp; omega) (.slice Ar mr pr))
    have HT := Lib.hid (HT0.out.kept HB.out)
    have XB := Lib.hid xb2
    have HO1 := Lib.hid (own_set (i := 1) (u := .slice Ar mr pr) (own_below HO1.out hw) xb (by decide))
    have HOR := Lib.hid (own_set (i := 1) (u := .slice Ar mr pr) OC xb (by decide))
    have HO4 := Lib.hid (own_set (i := 1) (u := .slice Ar mr pr) (own_below HO4.out hw) xb (by decide))
    clear xb xb2 bx hw OC HV3 HV4 HV5 HV6
    generalize hwv : wt.setCell ⟨y2.heap.size, 1, none⟩ (.slice Ar mr pr) = wv at HB BX HT XB HO1 HOR HO4 ⊢
    clear hwv
    obtain ⟨ws, hws⟩ : ∃ x : World, x = wv := ⟨_, rfl⟩
    rw [← hws] at HB BX HT XB HO1 HOR HO4 ⊢
    clear hws
    have BB := BX.out
    have cB := fun i => BB.cell i
    go_upto_region 10 with fail
    clear cB BB
    obtain ⟨V3, v3, v4⟩ := rows_from (P := Try.prog) (cells := fun x : Value × List Cl => [x.1]) (sz := 1) (A := A3) (cap := cap3) (l := c) (r := k) Try.underlying24 hi3 hz31 (by omega) .i64
    obtain ⟨V4, v5, v6⟩ := rows_upto (P := Try.prog) (cells := fun x : Value × List Cl => [x.1]) (sz := 1) (A := A3) (cap := cap3) (l := c) (r := k) Try.underlying24 hi3 (by omega) hcp3 .i64
    have HV3 := Lib.hid v3
    have HV4 := Lib.hid v4
    have HV5 := Lib.hid v5
    have HV6 := Lib.hid v6
    clear v3 v4 v5 v6
    rw [Hk.out]
    have bx := BX.out
    have xb := XB.out
    apply wp_region_kill 12 10 (fun d => d == 0 || d == 5) [(FactK.sl ws.heap.size 0 80 #[]), (FactK.eq _), (FactK.eq _), (FactK.eq _), (FactK.eq V3), (FactK.own ws.heap.size 80 1 (c.drop k).length ((c.drop k).flatMap fun x => [x.1])), (FactK.eq _), (FactK.eq _), (FactK.eq _), (FactK.eq V4), (FactK.own ws.heap.size 80 1 (rot k c).length ((rot k c).flatMap fun x => [x.1])), (FactK.eq _)]
    case hm => kernel_rfl
    case hB => kernel_rfl
    case hk => kernel_rfl
    case hA => (intro vs; simp only [List.take_succ_cons, List.take_zero, putAll, if_true, Act.put, List.setIfInBounds_toArray, List.set_cons_zero, List.set_cons_succ]; exact rfl)
    case hstep =>
      intro vs
      refine And.intro (fun _ w hw hd => ?_) ?_
      · refine ⟨rfl, ?_⟩
        simp only [Gives]
        go_simp
        exact ⟨(Below.refl _ _).alloc (Nat.le_refl _) _, ⟨_, rfl, Box.new rfl, hw.size⟩⟩
      refine And.intro (fun _ w hw hd => ?_) ?_
      · refine ⟨rfl, ?_⟩
        simp only [Gives]
        go_simp
        exact ⟨Below.refl _ _, rfl⟩
      refine And.intro (fun _ w hw hd => ?_) ?_
      · have d1 := hd 1 (by decide) rfl
        change vs 1 = _ at d1
        refine ⟨rfl, ?_⟩
        have c_bx := fun i => (bx.kept hw).cell i
        have c_xb := fun i => (xb.kept hw).cell i
        simp only [Gives]
        go_simp
        exact ⟨Below.refl _ _, rfl⟩
      refine And.intro (fun _ w hw hd => ?_) ?_
      · refine ⟨rfl, ?_⟩
        simp only [Gives]
        go_simp
        exact ⟨Below.refl _ _, rfl⟩
      refine And.intro (fun _ w hw hd => ?_) ?_
      · have d2 := hd 2 (by decide) rfl
        change vs 2 = _ at d2
        have d3 := hd 3 (by decide) rfl
        change vs 3 = _ at d3
        refine ⟨rfl, ?_⟩
        simp only [Gives]
        refine gives_slice 24 (.tmp 62) (some (.tmp 63)) none rfl (.slice A3 c.length cap3) V3 (some (.int .i64 k)) none ?_ ?_ rfl (HV3.out _) ⟨Below.refl _ _, rfl⟩
        all_goals (go_simp)
      refine And.intro (fun _ w hw hd => ?_) ?_
      · have d0 := hd 0 (by decide) rfl
        obtain ⟨n0, d0, N0, K0⟩ := d0
        have d4 := hd 4 (by decide) rfl
        change vs 4 = _ at d4
        refine ⟨rfl, ?_⟩
        simp only [Gives]
        obtain ⟨Aa, ma, pa, wa, hra, hoa, hba⟩ := run_append_fresh (P := Try.prog) w _ 24 24 80 i3 _ 1 24 Try.underlying24 hi3 hz30 hz31 hz32 rfl (by decide) n0 N0 K0 (fun x : Value × List Cl => [x.1]) (c.drop k) _ (HV4.out _ (HT.out.cs.kept hw)) (fun _ => rfl) (by rw [List.length_drop]; omega)
        refine gives_append (.tmp 60) (.tmp 64) 24 rfl _ _ _ ?_ ?_ hra ⟨hba, ⟨_, _, _, rfl, hoa⟩⟩
        all_goals (go_simp)
      refine And.intro (fun _ w hw hd => ?_) ?_
      · refine ⟨rfl, ?_⟩
        simp only [Gives]
        go_simp
        exact ⟨Below.refl _ _, rfl⟩
      refine And.intro (fun _ w hw hd => ?_) ?_
      · have d6 := hd 6 (by decide) rfl
        change vs 6 = _ at d6
        refine ⟨rfl, ?_⟩
        have c_bx := fun i => (bx.kept hw).cell i
        have c_xb := fun i => (xb.kept hw).cell i
        simp only [Gives]
        go_simp
        exact ⟨Below.refl _ _, rfl⟩
      refine And.intro (fun _ w hw hd => ?_) ?_
      · refine ⟨rfl, ?_⟩
        simp only [Gives]
        go_simp
        exact ⟨Below.refl _ _, rfl⟩
      refine And.intro (fun _ w hw hd => ?_) ?_
      · have d7 := hd 7 (by decide) rfl
        change vs 7 = _ at d7
        have d8 := hd 8 (by decide) rfl
        change vs 8 = _ at d8
        refine ⟨rfl, ?_⟩
        simp only [Gives]
        refine gives_slice 24 (.tmp 67) none (some (.tmp 68)) rfl (.slice A3 c.length cap3) V4 none (some (.int .i64 k)) ?_ rfl ?_ (HV5.out _) ⟨Below.refl _ _, rfl⟩
        all_goals (go_simp)
      refine And.intro (fun h => absurd rfl h) ?_
      refine And.intro (fun _ w hw hd => ?_) ?_
      · refine ⟨rfl, ?_⟩
        simp only [Gives]
        go_simp
        exact ⟨Below.refl _ _, rfl⟩
      exact trivial
    case hp =>
      intro vs o ho w hw hd
      obtain rfl := Option.some.inj ho
      have d5 := hd 5 (by decide) rfl
      obtain ⟨Af, mf, pf, d5, O5⟩ := d5
      have d9 := hd 9 (by decide) rfl
      change vs 9 = _ at d9
      refine ⟨rfl, ?_⟩
      simp only [Gives]
      obtain ⟨v', w', hra, hoa, hga, hat⟩ := run_append_rows (P := Try.prog) (w := w) _ 24 24 80 i3 _ 1 24 Try.underlying24 hi3 hz30 hz31 hz32 rfl (by decide) _ _ _ O5 (fun x : Value × List Cl => [x.1]) (c.take k) _ (HV6.out _ (HT.out.cs.kept hw)) (fun _ => rfl) (fun x hx y hy => (by obtain rfl := List.mem_singleton.1 hy; exact onec x (List.mem_of_mem_take hx))) (by rw [rot_len2]; unfold maxLen; omega) (by rw [rot_len2]; omega) hw.size
      obtain ⟨Ag, mg, pg, rfl⟩ := own_form hoa
      refine gives_append (.tmp 65) (.tmp 69) 24 rfl _ _ _ ?_ ?_ hra ⟨hw.grown hga hw.size (fun b e => (O5.lt b e).1), ⟨_, _, _, rfl, own_rot hoa⟩⟩
      all_goals (go_simp)
    case hfree => rfl
    intro vs wt hw hd
    have d1 := hd 1 (by decide) rfl
    change vs 1 = _ at d1
    have d2 := hd 2 (by decide) rfl
    change vs 2 = _ at d2
    have d3 := hd 3 (by decide) rfl
    change vs 3 = _ at d3
    have d4 := hd 4 (by decide) rfl
    change vs 4 = _ at d4
    have d6 := hd 6 (by decide) rfl
    change vs 6 = _ at d6
    have d7 := hd 7 (by decide) rfl
    change vs 7 = _ at d7
    have d8 := hd 8 (by decide) rfl
    change vs 8 = _ at d8
    have d9 := hd 9 (by decide) rfl
    change vs 9 = _ at d9
    have d10 := hd 10 (by decide) rfl
    obtain ⟨Ac, mc, pc, d10, OC⟩ := d10
    have d11 := hd 11 (by decide) rfl
    change vs 11 = _ at d11
    simp only [d1, d2, d3, d4, d6, d7, d8, d9, d10, d11, List.drop_succ_cons, List.drop_zero]
    have bx := bx.kept hw
    have xb := xb.kept hw
    clear hd d1 d2 d3 d4 d6 d7 d8 d9 d10 d11
    have cx := fun i => xb.cell i
    have fx := fun i => xb.free i
    go_upto_region 11 with fail
    clear cx fx
    have xb2 := xb.put 2 (.slice Ac mc pc)
    simp only [List.setIfInBounds_toArray, List.set_cons_succ, List.set_cons_zero] at xb2
    have HB := Lib.hid (up_put (up_later HB.out hw) (p := ⟨y2.heap.size, 2, none⟩) (by simp; omega) (.slice Ac mc pc))
    have BX := Lib.hid (bx.far (p := ⟨y2.heap.size, 2, none⟩) (by simp; omega) (.slice Ac mc pc))
    have l1 : RowsAt (wt.setCell ⟨y2.heap.size, 2, none⟩ (.slice Ac mc pc)) (.slice F1 m1 p1) 4 St.cells L.st := RowsAt.of_ownM (fun _ => rfl) (own_set (own_below HO1.out hw) xb (by decide)) rfl (by omega)
    have l2 : RowsAt (wt.setCell ⟨y2.heap.size, 2, none⟩ (.slice Ac mc pc)) (.slice Ar mr pr) 6 Wl.cells (rot r L.rg) := RowsAt.of_ownM (fun _ => rfl) (own_set (own_below HOR.out hw) xb (by decide)) rfl (by rw [len_rot]; omega)
    have l3 : RowsAt (wt.setCell ⟨y2.heap.size, 2, none⟩ (.slice Ac mc pc)) (.slice Ac mc pc) 1 (fun x : Value × List Cl => [x.1]) (rot k c) := RowsAt.of_ownM (fun _ => rfl) (own_set OC xb (by decide)) rfl (by rw [len_rot]; omega)
    have l4 : RowsAt (wt.setCell ⟨y2.heap.size, 2, none⟩ (.slice Ac mc pc)) (.slice F4 m4 p4) 3 Sn.cells L.sn := RowsAt.of_ownM (fun _ => rfl) (own_set (own_below HO4.out hw) xb (by decide)) rfl (by omega)
    have l5 : (rot k c).map (·.2) = rot k L.cs := by
      unfold rot
      rw [List.map_append, List.map_drop, List.map_take, HT0.out.eq]
    have HX := Lib.hid (show LandAt (wt.setCell ⟨y2.heap.size, 2, none⟩ (.slice Ac mc pc)) (.slice F1 m1 p1) (.slice Ar mr pr) (.slice Ac mc pc) (.slice F4 m4 p4) (rotLd r k L) (rot k c) from
      ⟨l1, l2, l3, l5, fun x hx => (HT0.out.kept HB.out).each x (mem_rot.1 hx), l4⟩)
    clear l1 l2 l3 l4 l5
    have HT := Lib.hid (HT0.out.kept HB.out)
    have XB := Lib.hid xb2
    clear xb xb2 bx HO1 HOR HO4 hw OC HV3 HV4 HV5 HV6
    generalize hwq : wt.setCell ⟨y2.heap.size, 2, none⟩ (.slice Ac mc pc) = wq at HB BX HX HT XB ⊢
    clear hwq
    have BB := BX.out
    have cB := fun i => BB.cell i
    go_wp2_with fail
    clear cB BB
    refine (Land_any _ _ _ _ L _ _ HT.out).mono ?_
    rintro e ya ⟨a1, a2, a3, a4, ca, rfl, hl, hb⟩
    have Hl := Lib.hid hl
    clear hl
    have HB := Lib.hid (up_later HB.out hb)
    have HT := Lib.hid (HT.out.kept hb)
    have BX := Lib.hid (BX.out.kept hb)
    have HX := Lib.hid (HX.out.kept hb)
    have XB := Lib.hid (XB.out.kept hb)
    clear hb
    go_wp2_with fail
    have AA := Always_any _ _ _ _ L _ i j ya Hl.out
    rw [HAE.out] at AA
    refine AA.mono ?_
    rintro e yb ⟨uh, rfl, hrh, hb⟩
    obtain ⟨_, ra, rcap, rfl, _, _⟩ := hrh.form
    have HU := Lib.hid hrh
    clear AA Hl hrh
    have HB := Lib.hid (up_later HB.out hb)
    have HT := Lib.hid (HT.out.kept hb)
    have BX := Lib.hid (BX.out.kept hb)
    have HX := Lib.hid (HX.out.kept hb)
    have XB := Lib.hid (XB.out.kept hb)
    clear hb
    have BB := XB.out
    have cB := fun i => BB.cell i
    go_wp2_with fail
    clear cB BB
    refine (Land_any _ _ _ _ (rotLd r k L) _ _ HX.out).mono ?_
    rintro e ya ⟨a1, a2, a3, a4, ca, rfl, hl, hb⟩
    have Hl := Lib.hid hl
    clear hl
    have HB := Lib.hid (up_later HB.out hb)
    have HT := Lib.hid (HT.out.kept hb)
    have BX := Lib.hid (BX.out.kept hb)
    have HX := Lib.hid (HX.out.kept hb)
    have XB := Lib.hid (XB.out.kept hb)
    have HU := Lib.hid (HU.out.kept hb)
    clear hb
    go_wp2_with fail
    have AA := Always_any _ _ _ _ (rotLd r k L) _ i j ya Hl.out
    rw [HAR.out r] at AA
    refine AA.mono ?_
    rintro e yb ⟨uk, rfl, hrk, hb⟩
    obtain ⟨_, rb, rcbp, rfl, _, _⟩ := hrk.form
    have HV := Lib.hid hrk
    clear AA Hl hrk
    have HB := Lib.hid (up_later HB.out hb)
    have HT := Lib.hid (HT.out.kept hb)
    have BX := Lib.hid (BX.out.kept hb)
    have HX := Lib.hid (HX.out.kept hb)
    have XB := Lib.hid (XB.out.kept hb)
    have HU := Lib.hid (HU.out.kept hb)
    clear hb
    have BB := BX.out
    have cB := fun i => BB.cell i
    go_wp2_with fail
    clear cB BB
    refine (Land_any _ _ _ _ L _ _ HT.out).mono ?_
    rintro e ya ⟨a1, a2, a3, a4, ca, rfl, hl, hb⟩
    have Hl := Lib.hid hl
    clear hl
    have HB := Lib.hid (up_later HB.out hb)
    have HX := Lib.hid (HX.out.kept hb)
    have XB := Lib.hid (XB.out.kept hb)
    have HU := Lib.hid (HU.out.kept hb)
    have HV := Lib.hid (HV.out.kept hb)
    clear hb
    go_wp2_with fail
    refine (Rise_any _ _ _ _ L _ i j ya Hl.out).mono ?_
    rintro e yb ⟨rfl, hb⟩
    clear Hl
    have HB := Lib.hid (up_later HB.out hb)
    have HX := Lib.hid (HX.out.kept hb)
    have XB := Lib.hid (XB.out.kept hb)
    have HU := Lib.hid (HU.out.kept hb)
    have HV := Lib.hid (HV.out.kept hb)
    clear hb
    have BB := XB.out
    have cB := fun i => BB.cell i
    go_wp2_with fail
    clear cB BB
    refine (Land_any _ _ _ _ (rotLd r k L) _ _ HX.out).mono ?_
    rintro e ya ⟨a1, a2, a3, a4, ca, rfl, hl, hb⟩
    have Hl := Lib.hid hl
    clear hl
    have HB := Lib.hid (up_later HB.out hb)
    have HU := Lib.hid (HU.out.kept hb)
    have HV := Lib.hid (HV.out.kept hb)
    clear hb
    go_wp2_with fail
    have AA := Rise_any _ _ _ _ (rotLd r k L) _ i j ya Hl.out
    rw [HRR.out r] at AA
    refine AA.mono ?_
    rintro e yb ⟨rfl, hb⟩
    clear AA Hl
    have HB := Lib.hid (up_later HB.out hb)
    have HU := Lib.hid (HU.out.kept hb)
    have HV := Lib.hid (HV.out.kept hb)
    clear hb
    go_wp2_with fail
    refine (ints_any _ _ _ _ _ HU.out HV.out).mono ?_
    rintro e yc ⟨rfl, hb⟩
    have HB := Lib.hid (up_later HB.out hb)
    clear hb
    rw [beq_self_eq_true]
    go_wp2_with fail
    refine (awake_any _).mono ?_
    rintro e y9 ⟨rfl, hb⟩
    go_wp2_with fail
    go_ret
    exact ⟨by simp [go_sem], up_later HB.out hb⟩

end Go.Proofs.Ytojbdmdjepgpjaa

namespace Go.Proofs.Ytojbdmdjepgpjaa
open Go.ChangeShapes Go.WideShapes Go.ChangeAt Go.RowKit

set_option maxRecDepth 100000 in
theorem hillOrder_lifted (os : Os) (started : os.Started) (H : Type) (enc : TypeId × Value → H) :
    ReturnsInHanded {} Try.checked os 14 .any (Rows.hillOrderSpec.pre6 enc Try.prog Try.f14 Rows.hillOrderRow.domain false) (Rows.hillOrderSpec.post enc Try.prog Try.f14 false true false false) := by
  refine returnsInHanded_of_change (C := Try.checked) own_knob started (by kernel_rfl) Try.func14
    (ChangeSpec.witness6 (enc := enc) (C := Try.checked) false ⟨#[], #[.agg #[.slice Option.none 0 0, .slice Option.none 0 0, .slice Option.none 0 0, .slice Option.none 0 0], .int .u8 0, .int .u8 0], []⟩ 8 (by kernel_rfl) (by kernel_rfl) (by kernel_rfl) (by kernel_rfl)) ?_
  intro W base args ds gs before hval0 hW hcnd _
  have hval : ∀ (j : Nat) t v, Try.f14.params[j]? = some t → args[j]? = some v → Value.okWide Try.prog W .any base t v := hval0
  have hW' := hW
  obtain ⟨p, q, hA0, hV, rfl, hfz, hnd⟩ := hW
  have hA : DataW.TrodAll enc Try.prog W 0 (fun _ => true) true Try.f14.params.toList args.toList ds p := hA0
  rw [Try.params14] at hA hval
  have hlt : ∀ x ∈ p, x.block < W.heap.size := fun x hx => hW'.lt x (List.mem_append_left _ hx)
  have hAk := hA
  obtain ⟨v0, vs0, d0, ds0, p0, q0, hargs, rfl, rfl, h0, r0⟩ := trodAll_cons hA
  obtain ⟨v1, vs1, d1, ds1, p1, q1, rfl, rfl, rfl, h1, r1⟩ := trodAll_cons r0
  obtain ⟨v2, vs2, d2, ds2, p2, q2, rfl, rfl, rfl, h2, r2⟩ := trodAll_cons r1
  obtain ⟨rfl, rfl, rfl⟩ := trodAll_nil r2
  obtain rfl : args = #[v0, v1, v2] := by cases args; simp_all
  obtain ⟨rfl, rfl⟩ := trodVars_none hV
  obtain ⟨a1, rfl, rfl, rfl, w1⟩ := open_int Try.underlying5 (hval 1 5 v1 rfl rfl) h1
  obtain ⟨a2, rfl, rfl, rfl, w2⟩ := open_int Try.underlying5 (hval 2 5 v2 rfl rfl) h2
  obtain ⟨cs, rfl, _⟩ := okWide_struct und27 (hval 0 27 v0 rfl rfl)
  obtain ⟨fuel, h0⟩ := h0
  obtain ⟨u1, u2, u3, u4, L, c, hcs, hL⟩ := open_land h0
  obtain rfl : cs = #[u1, u2, u3, u4] := by
    have h : cs.toList = [u1, u2, u3, u4] := hcs
    cases cs
    simp at h
    rw [h]
  clear hA0 hval0 hval hA
  simp only [List.append_nil] at hW'
  simp only [List.append_nil] at hAk hlt
  refine (order_law u1 u2 u3 u4 L c a1 a2 W hL (bounds_u8 w1) (bounds_u8 w2)).mono fun e W' ⟨he, hg⟩ => ?_
  subst he
  refine ⟨_, rfl, post_below (pv := []) hW' hg (fun _ _ _ => (trodAll_cons_mk (shut_bool Try.underlying4 _) trodAll_mk0)) (fun sp hsp => ?_) (fun _ _ => rfl) (List.append_nil _).symm
    (ok_one (by kernel_rfl) rfl (okWide_bool_mk Try.underlying4 _))⟩
  rw [Try.params14]
  refine args_stay laid_out hg (fun t ht => ?_) hAk hlt sp (fun x hx => hsp x (by first | exact hx | simpa using hx))
  simp only [List.mem_cons, List.not_mem_nil, or_false] at ht
  rcases ht with rfl | rfl | rfl
  · exact rec27
  · exact rec5
  · exact rec5

theorem hillOrder_over : Rows.hillOrderRow.holds Try.pinned (OpenSpec.ofChange Rows.hillOrderSpec) :=
  OpenClaim.holds_of_wide 14 Try.f14 rfl rfl rfl rfl rfl rfl rfl ⟨rfl, rfl, rfl, rfl, rfl⟩ rfl rfl rfl rfl rfl (by kernel_rfl) Try.func14 (by kernel_rfl)
    (of_decide_eq_true (by kernel_rfl)) (by unfold Func.isWrapper; first | (rw [if_pos (by decide +kernel)]; kernel_rfl) | (rw [if_neg (by decide +kernel)]; exact ⟨rfl, rfl⟩))
    (fun os started H enc _ => hillOrder_lifted os started H enc)

theorem HillOrder_holds : Rows.HillOrderSaid := hillOrder_over

end Go.Proofs.Ytojbdmdjepgpjaa
