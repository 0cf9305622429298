/-
  HillReached holds: a station is in Reach if and only if the reason is Free; with 2 Mirrors a station reaches no fewer stations. No condition.
-/
import Derived.Test.YtlnagjdokfkjoaaMe
import Derived.Test.YtlnagjdokfkjoaaSe
import Derived.Test.YtlnagjdokfkjoaaCv
namespace Go.Proofs.Ytlnagjdokfkjoaa
open Go.RowKit

theorem open_one {L : Ld} {i k h : Nat} (he : errI L = 0) (hi : i < L.st.length) (hk : k < L.cs.length) (hh : h < L.sn.length) : openI L k h [(i : Int)] = 0 := by
  have h1 : inB 0 ((L.cs.length : Int) - 1) k = true := inB_iff.2 (by omega)
  have h2 : inB 0 ((L.sn.length : Int) - 1) h = true := inB_iff.2 (by omega)
  have h3 : ([(i : Int)].all (inB 0 ((L.st.length : Int) - 1))) = true := by
    have a1 : inB 0 ((L.st.length : Int) - 1) i = true := inB_iff.2 (by omega)
    simp [a1]
  unfold openI
  rw [if_neg (by simp [he]), h1, h2, h3]
  simp

set_option maxRecDepth 100000 in
set_option maxHeartbeats 3000000 in
theorem reached_law (v1 v2 v3 v4 : Value) (L : Ld) (c : List (Value × List Cl)) (x y z : Int) (w : World) (hL : LandAny w v1 v2 v3 v4 L c) (hx : 0 ≤ x ∧ x ≤ 255) (hy : 0 ≤ y ∧ y ≤ 255) (hz : 0 ≤ z ∧ z ≤ 255) :
    Calls Try.prog 14 #[.agg #[v1, v2, v3, v4], .int .u8 x, .int .u8 y, .int .u8 z] w fun e w' => e = .returned (.bool true) ∧ Below w.heap.size w w' := by
  obtain ⟨hy0, hy1⟩ := hy
  obtain ⟨hz0, hz1⟩ := hz
  have HA := Lib.hid hL
  obtain ⟨A1, cap1, rfl, _, _⟩ := hL.st.form
  obtain ⟨A2, cap2, rfl, _, _⟩ := hL.rg.form
  obtain ⟨A3, cap3, rfl, _, _⟩ := hL.cs.form
  obtain ⟨A4, cap4, rfl, _, _⟩ := hL.sn.form
  have Hcl := Lib.hid (show c.length = L.cs.length by rw [← hL.eq]; simp)
  clear hL
  cases hr : readyB L
  case false =>
    have Hr := Lib.hid hr
    clear hr
    go_enter Try.func14, Try.ntmps14
    go_wp2_with fail
    refine (Lready_any _ _ _ _ L c _ (HA.out.kept (up_alloc up0 _))).mono ?_
    rintro e y0 ⟨rfl, hb⟩
    rw [Hr.out]
    go_wp2_with fail
    refine (awake_any _).mono ?_
    rintro e y1 ⟨rfl, hb2⟩
    go_wp2_with fail
    go_ret
    exact ⟨rfl, up_later (up_later (up_alloc up0 _) hb) hb2⟩
  have hq := hr
  simp only [readyB, Bool.and_eq_true, beq_iff_eq, decide_eq_true_eq] at hq
  obtain ⟨⟨hth, he⟩, h1n⟩ := hq
  have hT := HA.out.thin hth
  have hok := land_ok he
  obtain ⟨_, hl6, hg6, hc0, hc4, hs0, hs12⟩ := hok.len
  have hcl := Hcl.out
  obtain ⟨i, hi, hin⟩ := nat_mod (x := x) (n := L.st.length) (by omega)
  obtain ⟨j, hj, hjn⟩ := nat_mod (x := x % (L.st.length : Int) + 1 + x / 8 % ((L.st.length : Int) - 1)) (n := L.st.length) (by omega)
  have hij : i ≠ j := by
    have h := mod_ne (n := (L.st.length : Int)) (x := x) (by omega)
    rw [hi] at h hj
    rw [hj] at h
    omega
  have o1 : ∀ k h : Nat, k < L.cs.length → h < L.sn.length → openI L k h [(i : Int), (j : Int)] = 0 := fun k h hk hh => open_zero he hin hjn hk hh hij
  have Hr := Lib.hid hr
  have HT0 := Lib.hid hT
  have Hpi := Lib.hid (show (pairI (L.st.length : Int) x).1 = i from hi)
  have Hpj := Lib.hid (show (pairI (L.st.length : Int) x).2 = j from hj)
  have hn1 : L.st.length ≤ 1000 := by omega
  have i0 : (0 : Int) ≤ (i : Int) := by omega
  have i1 : (i : Int) < (L.st.length : Int) := by omega
  have j0 : (0 : Int) ≤ (j : Int) := by omega
  have j1 : (j : Int) < (L.st.length : Int) := by omega
  have He := Lib.hid he
  have Hok := Lib.hid hok
  obtain ⟨k, hk, hkn⟩ := nat_mod (x := y) (n := c.length) (by omega)
  have hkc : k < L.cs.length := by omega
  have Hk := Lib.hid hk
  have cz : ¬ (c.length : Int) = 0 := by omega
  have cz' : ((c.length : Int) == 0) = false := by rw [beq_eq_false_iff_ne]; omega
  have k0 : (0 : Int) ≤ (k : Int) := by omega
  have k1 : (k : Int) < (c.length : Int) := by omega
  obtain ⟨t, ht, htn⟩ := nat_mod (x := z) (n := L.sn.length) (by omega)
  have Ht := Lib.hid ht
  have sz : ¬ (L.sn.length : Int) = 0 := by omega
  have sz' : ((L.sn.length : Int) == 0) = false := by rw [beq_eq_false_iff_ne]; omega
  have t0 : (0 : Int) ≤ (t : Int) := by omega
  have t1 : (t : Int) < (L.sn.length : Int) := by omega
  obtain ⟨s1, hs1⟩ : ∃ s, L.st[i]? = some s := ⟨_, List.getElem?_eq_getElem hin⟩
  have HS1 := Lib.hid hs1
  have hsl : (setSt L i ⟨s1.x, s1.y, s1.z, 2⟩).st.length = L.st.length := by simp [setSt]
  have he2 : errI (setSt L i ⟨s1.x, s1.y, s1.z, 2⟩) = 0 := err_set hs1 rfl rfl (by
    have h := List.all_eq_true.1 (by have := (err_parts he).2; simp only [validB, Bool.and_eq_true] at this; exact this.1.1.1.1.2) s1 (List.mem_of_getElem? hs1)
    simp only [stB, Bool.and_eq_true] at h ⊢
    exact ⟨h.1, by decide⟩) he
  have HR1 := Lib.hid (show reachE L i k t = (uptoF (fun q => (q : Int) != (i : Int) && freeB L i q k t) L.st.length, 0) by
    have := open_one he hin hkc htn
    unfold reachE
    rw [if_neg (by simpa using this)])
  have HR2 := Lib.hid (show reachE (setSt L i ⟨s1.x, s1.y, s1.z, 2⟩) i k t = (uptoF (fun q => (q : Int) != (i : Int) && freeB (setSt L i ⟨s1.x, s1.y, s1.z, 2⟩) i q k t) L.st.length, 0) by
    have := open_one (L := setSt L i ⟨s1.x, s1.y, s1.z, 2⟩) (i := i) (k := k) (h := t) he2 (by omega) hkc htn
    unfold reachE
    rw [if_neg (by simpa using this), hsl])
  obtain ⟨rz, hrz⟩ : ∃ r, r = (whyI L i j k t).1 := ⟨_, rfl⟩
  have HY := Lib.hid (show whyE L i j k t = (rz, (whyI L i j k t).2, 0) by
    have := o1 k t hkc htn
    unfold whyE
    rw [if_neg (by simpa using this), hrz])
  have W1 := Lib.hid (show withinB [(j : Int)] (uptoF (fun q => (q : Int) != (i : Int) && freeB L i q k t) L.st.length) = (rz == 0) by
    rw [within_one hjn, hrz]
    have : ((j : Int) != (i : Int)) = true := by simp; omega
    rw [this, Bool.true_and]; rfl)
  have W2 := Lib.hid (show withinB [(i : Int)] (uptoF (fun q => (q : Int) != (i : Int) && freeB L i q k t) L.st.length) = false by
    rw [within_one hin]; simp)
  have W3 := Lib.hid (show withinB (uptoF (fun q => (q : Int) != (i : Int) && freeB L i q k t) L.st.length) (uptoF (fun q => (q : Int) != (i : Int) && freeB (setSt L i ⟨s1.x, s1.y, s1.z, 2⟩) i q k t) L.st.length) = true from
    within_upto fun q _ hp => by
      rw [Bool.and_eq_true] at hp ⊢
      refine ⟨hp.1, free_mirror hs1 (fun e => ?_) hp.2⟩
      subst e
      simp at hp)
  clear hrz he2
  clear hr hT hok hi hj hk ht hth he hcl hs1
  have hk := Hk.out
  have ht := Ht.out
  go_enter Try.func14, Try.ntmps14
  go_wp2_with fail
  have BX := Lib.hid (Box.new (w := w) (t := 27) (cs := #[.slice A1 L.st.length cap1, .slice A2 L.rg.length cap2, .slice A3 c.length cap3, .slice A4 L.sn.length cap4]) rfl)
  have HB := Lib.hid (up_alloc (up0 (w := w)) (.cells #[.slice A1 L.st.length cap1, .slice A2 L.rg.length cap2, .slice A3 c.length cap3, .slice A4 L.sn.length cap4] 27))
  have HT := Lib.hid (HT0.out.kept HB.out)
  refine (Lready_any _ _ _ _ L c _ (HA.out.kept HB.out)).mono ?_
  rintro e y0 ⟨rfl, hb⟩
  rw [Hr.out]
  have HB := Lib.hid (up_later HB.out hb)
  have HT := Lib.hid (HT.out.kept hb)
  have BX := Lib.hid (BX.out.kept hb)
  clear hb
  have BB := BX.out
  have cB := fun i => BB.cell i
  go_wp2_with fail
  clear cB BB
  refine (Lpair_any _ L.st.length cap1 _ _ _ x _ h1n hn1 hx).mono ?_
  rintro e y1 ⟨rfl, hb⟩
  rw [Hpi.out, Hpj.out]
  have HB := Lib.hid (up_later HB.out hb)
  have HT := Lib.hid (HT.out.kept hb)
  have BX := Lib.hid (BX.out.kept hb)
  clear hb
  have BB := BX.out
  have cB := fun i => BB.cell i
  go_wp2_with fail
  go_region
  clear cB BB hk ht
  rw [Hk.out, Ht.out]
  have hb := up_drew (up0 (w := y1))
  have HB := Lib.hid (up_later HB.out hb)
  have HT := Lib.hid (HT.out.kept hb)
  have BX := Lib.hid (BX.out.kept hb)
  clear hb
  have BB := BX.out
  have cB := fun i => BB.cell i
  go_wp2_with fail
  clear cB BB
  refine (copied_any _ _ _ _ L c _ HT.out).mono ?_
  rintro e y2 ⟨u1, u2, u3, u4, cx, rfl, hcop, hb⟩
  have hcs : ∀ x ∈ L.cs, x.length ≤ 1000 := fun x hx => by
    rw [← HT.out.eq] at hx
    obtain ⟨y, hy, rfl⟩ := List.mem_map.1 hx
    exact (HT.out.each y hy).form.1
  obtain ⟨F1, m1, p1, rfl⟩ := own_form hcop.o1
  obtain ⟨F2, m2, p2, rfl⟩ := own_form hcop.o2
  obtain ⟨F3, m3, p3, rfl⟩ := own_form hcop.o3
  obtain ⟨F4, m4, p4, rfl⟩ := own_form hcop.o4
  obtain ⟨b1, f1, rfl, hb1l, hq1⟩ := (hcop.land (by omega) (by omega) (by omega) (by omega) hcs).st.at rfl HS1.out
  obtain ⟨rfl, rfl, _⟩ := own_put (i := 0) (u := iv 0) hcop.o1
  have hq3 : y2.cell? ⟨b1, i * 4 + 3, none⟩ = some (.int .i64 s1.m) := by simpa using hq1 3 _ rfl
  have hf3 : y2.frozen? ⟨b1, i * 4 + 3, none⟩ = false := own_free hcop.o1
  have hlo := (hcop.o1.lt b1 rfl).1
  have BB := BX.out.kept hb
  have cB := fun i => BB.cell i
  have hlB := BB.lt
  have hlA := BX.out.lt
  have hne : ¬ b1 = w.heap.size := by omega
  have hne' : ¬ w.heap.size = b1 := by omega
  have HCP := Lib.hid hcop
  have HCB := Lib.hid hb
  clear hcop hb hq1
  go_wp2_with fail
  have XB := Lib.hid (Box.new (w := y2.setCell ⟨b1, i * 4 + 3, none⟩ (.int .i64 2)) (g := y2.heap.size) (t := 27) (cs := #[.slice (some ⟨b1, 0, none⟩) L.st.length p1, .slice F2 m2 p2, .slice F3 m3 p3, .slice F4 m4 p4]) (by simp))
  have HC := Lib.hid (show Cop 74 79 80 60 82 _ (setSt L i ⟨s1.x, s1.y, s1.z, 2⟩) _ (.slice (some ⟨b1, 0, none⟩) L.st.length p1) (.slice F2 m2 p2) (.slice F3 m3 p3) (.slice F4 m4 p4) cx from
    (HCP.out.putSt (j := 3) (s' := ⟨s1.x, s1.y, s1.z, 2⟩) (u := .int .i64 2) HS1.out (by omega) rfl (by decide) (by decide) (by decide) (by decide)).2.kept (up_alloc up0 (.cells #[.slice (some ⟨b1, 0, none⟩) L.st.length p1, .slice F2 m2 p2, .slice F3 m3 p3, .slice F4 m4 p4] 27)))
  have hb := up_alloc (up_put HCB.out (p := ⟨b1, i * 4 + 3, none⟩) hlo (.int .i64 2)) (.cells #[.slice (some ⟨b1, 0, none⟩) L.st.length p1, .slice F2 m2 p2, .slice F3 m3 p3, .slice F4 m4 p4] 27)
  clear cB hlB hlA BB hq3 hf3 HCP HCB hlo
  have HB := Lib.hid (up_later HB.out hb)
  have HT := Lib.hid (HT.out.kept hb)
  have BX := Lib.hid (BX.out.kept hb)
  clear hb
  refine (Land_any _ _ _ _ L c _ HT.out).mono ?_
  rintro e ya ⟨a1, a2, a3, a4, ca, rfl, hl, hb⟩
  have Hl := Lib.hid hl
  clear hl
  have HB := Lib.hid (up_later HB.out hb)
  have HT := Lib.hid (HT.out.kept hb)
  have BX := Lib.hid (BX.out.kept hb)
  have XB := Lib.hid (XB.out.kept hb)
  have HC := Lib.hid (HC.out.kept hb)
  clear hb
  go_wp2_with fail
  have AA := Reach_any _ _ _ _ L _ i k t ya Hl.out
  rw [HR1.out] at AA
  refine AA.mono ?_
  rintro e yb ⟨u, rfl, hr, hb⟩
  obtain ⟨_, ra, rp, rfl, _, _⟩ := hr.form
  have HA1 := Lib.hid hr
  clear AA Hl hr
  have HB := Lib.hid (up_later HB.out hb)
  have HT := Lib.hid (HT.out.kept hb)
  have BX := Lib.hid (BX.out.kept hb)
  have XB := Lib.hid (XB.out.kept hb)
  have HC := Lib.hid (HC.out.kept hb)
  clear hb
  have BB := XB.out
  have cB := fun i => BB.cell i
  go_wp2_with fail
  clear cB BB
  have HX := Lib.hid (HC.out.land (by rw [hsl]; omega) (by show L.rg.length ≤ 1000; omega) (by show L.cs.length ≤ 1000; omega) (by show L.sn.length ≤ 1000; omega) hcs)
  refine (Land_any _ _ _ _ (setSt L i ⟨s1.x, s1.y, s1.z, 2⟩) cx _ HX.out).mono ?_
  rintro e ya ⟨a1, a2, a3, a4, ca, rfl, hl, hb⟩
  have Hl := Lib.hid hl
  clear hl HX
  have HB := Lib.hid (up_later HB.out hb)
  have HT := Lib.hid (HT.out.kept hb)
  have BX := Lib.hid (BX.out.kept hb)
  have HA1 := Lib.hid (HA1.out.kept hb)
  clear hb
  go_wp2_with fail
  have AA := Reach_any _ _ _ _ (setSt L i ⟨s1.x, s1.y, s1.z, 2⟩) _ i k t ya Hl.out
  rw [HR2.out] at AA
  refine AA.mono ?_
  rintro e yb ⟨u, rfl, hr, hb⟩
  obtain ⟨_, sa, sp, rfl, _, _⟩ := hr.form
  have HA2 := Lib.hid hr
  clear AA Hl hr XB HC
  have HB := Lib.hid (up_later HB.out hb)
  have HT := Lib.hid (HT.out.kept hb)
  have BX := Lib.hid (BX.out.kept hb)
  have HA1 := Lib.hid (HA1.out.kept hb)
  clear hb
  have BB := BX.out
  have cB := fun i => BB.cell i
  go_wp2_with fail
  clear cB BB
  refine (Land_any _ _ _ _ L c _ HT.out).mono ?_
  rintro e ya ⟨a1, a2, a3, a4, ca, rfl, hl, hb⟩
  have Hl := Lib.hid hl
  clear hl
  have HB := Lib.hid (up_later HB.out hb)
  have HT := Lib.hid (HT.out.kept hb)
  have BX := Lib.hid (BX.out.kept hb)
  have HA1 := Lib.hid (HA1.out.kept hb)
  have HA2 := Lib.hid (HA2.out.kept hb)
  clear hb
  go_wp2_with fail
  have AA := Why_any _ _ _ _ L _ i j k t ya Hl.out
  rw [HY.out] at AA
  refine AA.mono ?_
  rintro e yb ⟨rfl, hb⟩
  clear AA Hl
  have HB := Lib.hid (up_later HB.out hb)
  have HT := Lib.hid (HT.out.kept hb)
  have BX := Lib.hid (BX.out.kept hb)
  have HA1 := Lib.hid (HA1.out.kept hb)
  have HA2 := Lib.hid (HA2.out.kept hb)
  clear hb
  go_wp2_with fail
  have hr1 := ints_row1 (w := yb.alloc (.cells #[iv j] 3)) (g := yb.heap.size) (a := j) (Box.new rfl)
  have hb := up_alloc (up0 (w := yb)) (.cells #[iv j] 3)
  have HB := Lib.hid (up_later HB.out hb)
  have HA1 := Lib.hid (HA1.out.kept hb)
  have HA2 := Lib.hid (HA2.out.kept hb)
  clear hb
  refine (within_any _ _ _ _ _ hr1 HA1.out).mono ?_
  rintro e yc ⟨rfl, hb⟩
  rw [W1.out]
  clear hr1
  have HB := Lib.hid (up_later HB.out hb)
  have HA1 := Lib.hid (HA1.out.kept hb)
  have HA2 := Lib.hid (HA2.out.kept hb)
  clear hb
  have tt : ((rz == 0) == (rz == 0)) = true := by simp
  go_wp2_with fail
  have hr1 := ints_row1 (w := yc.alloc (.cells #[iv i] 3)) (g := yc.heap.size) (a := i) (Box.new rfl)
  have hb := up_alloc (up0 (w := yc)) (.cells #[iv i] 3)
  have HB := Lib.hid (up_later HB.out hb)
  have HA1 := Lib.hid (HA1.out.kept hb)
  have HA2 := Lib.hid (HA2.out.kept hb)
  clear hb
  refine (within_any _ _ _ _ _ hr1 HA1.out).mono ?_
  rintro e yd ⟨rfl, hb⟩
  rw [W2.out]
  clear hr1
  have HB := Lib.hid (up_later HB.out hb)
  have HA1 := Lib.hid (HA1.out.kept hb)
  have HA2 := Lib.hid (HA2.out.kept hb)
  clear hb
  go_wp2_with fail
  refine (within_any _ _ _ _ _ HA1.out HA2.out).mono ?_
  rintro e ye ⟨rfl, hb⟩
  rw [W3.out]
  have HB := Lib.hid (up_later HB.out hb)
  clear hb
  go_wp2_with fail
  refine (awake_any _).mono ?_
  rintro e y9 ⟨rfl, hb⟩
  go_wp2_with fail
  go_ret
  exact ⟨by simp [go_sem], up_later HB.out hb⟩

end Go.Proofs.Ytlnagjdokfkjoaa

namespace Go.Proofs.Ytlnagjdokfkjoaa
open Go.ChangeShapes Go.WideShapes Go.ChangeAt Go.RowKit

set_option maxRecDepth 100000 in
theorem hillReached_lifted (os : Os) (started : os.Started) (H : Type) (enc : TypeId × Value → H) :
    ReturnsInHanded {} Try.checked os 14 .any (Rows.hillReachedSpec.pre6 enc Try.prog Try.f14 Rows.hillReachedRow.domain false) (Rows.hillReachedSpec.post enc Try.prog Try.f14 false true false false) := by
  refine returnsInHanded_of_change (C := Try.checked) own_knob started (by kernel_rfl) Try.func14
    (ChangeSpec.witness6 (enc := enc) (C := Try.checked) false ⟨#[], #[.agg #[.slice Option.none 0 0, .slice Option.none 0 0, .slice Option.none 0 0, .slice Option.none 0 0], .int .u8 0, .int .u8 0, .int .u8 0], []⟩ 8 (by kernel_rfl) (by kernel_rfl) (by kernel_rfl) (by kernel_rfl)) ?_
  intro W base args ds gs before hval0 hW hcnd _
  have hval : ∀ (j : Nat) t v, Try.f14.params[j]? = some t → args[j]? = some v → Value.okWide Try.prog W .any base t v := hval0
  have hW' := hW
  obtain ⟨p, q, hA0, hV, rfl, hfz, hnd⟩ := hW
  have hA : DataW.TrodAll enc Try.prog W 0 (fun _ => true) true Try.f14.params.toList args.toList ds p := hA0
  rw [Try.params14] at hA hval
  have hlt : ∀ x ∈ p, x.block < W.heap.size := fun x hx => hW'.lt x (List.mem_append_left _ hx)
  have hAk := hA
  obtain ⟨v0, vs0, d0, ds0, p0, q0, hargs, rfl, rfl, h0, r0⟩ := trodAll_cons hA
  obtain ⟨v1, vs1, d1, ds1, p1, q1, rfl, rfl, rfl, h1, r1⟩ := trodAll_cons r0
  obtain ⟨v2, vs2, d2, ds2, p2, q2, rfl, rfl, rfl, h2, r2⟩ := trodAll_cons r1
  obtain ⟨v3, vs3, d3, ds3, p3, q3, rfl, rfl, rfl, h3, r3⟩ := trodAll_cons r2
  obtain ⟨rfl, rfl, rfl⟩ := trodAll_nil r3
  obtain rfl : args = #[v0, v1, v2, v3] := by cases args; simp_all
  obtain ⟨rfl, rfl⟩ := trodVars_none hV
  obtain ⟨a1, rfl, rfl, rfl, w1⟩ := open_int Try.underlying5 (hval 1 5 v1 rfl rfl) h1
  obtain ⟨a2, rfl, rfl, rfl, w2⟩ := open_int Try.underlying5 (hval 2 5 v2 rfl rfl) h2
  obtain ⟨a3, rfl, rfl, rfl, w3⟩ := open_int Try.underlying5 (hval 3 5 v3 rfl rfl) h3
  obtain ⟨cs, rfl, _⟩ := okWide_struct und27 (hval 0 27 v0 rfl rfl)
  obtain ⟨fuel, h0⟩ := h0
  obtain ⟨u1, u2, u3, u4, L, c, hcs, hL⟩ := open_land h0
  obtain rfl : cs = #[u1, u2, u3, u4] := by
    have h : cs.toList = [u1, u2, u3, u4] := hcs
    cases cs
    simp at h
    rw [h]
  clear hA0 hval0 hval hA
  simp only [List.append_nil] at hW'
  simp only [List.append_nil] at hAk hlt
  refine (reached_law u1 u2 u3 u4 L c a1 a2 a3 W hL (bounds_u8 w1) (bounds_u8 w2) (bounds_u8 w3)).mono fun e W' ⟨he, hg⟩ => ?_
  subst he
  refine ⟨_, rfl, post_below (pv := []) hW' hg (fun _ _ _ => (trodAll_cons_mk (shut_bool Try.underlying4 _) trodAll_mk0)) (fun sp hsp => ?_) (fun _ _ => rfl) (List.append_nil _).symm
    (ok_one (by kernel_rfl) rfl (okWide_bool_mk Try.underlying4 _))⟩
  rw [Try.params14]
  refine args_stay laid_out hg (fun t ht => ?_) hAk hlt sp (fun x hx => hsp x (by first | exact hx | simpa using hx))
  simp only [List.mem_cons, List.not_mem_nil, or_false] at ht
  rcases ht with rfl | rfl | rfl | rfl
  · exact rec27
  · exact rec5
  · exact rec5
  · exact rec5

theorem hillReached_over : Rows.hillReachedRow.holds Try.pinned (OpenSpec.ofChange Rows.hillReachedSpec) :=
  OpenClaim.holds_of_wide 14 Try.f14 rfl rfl rfl rfl rfl rfl rfl ⟨rfl, rfl, rfl, rfl, rfl⟩ rfl rfl rfl rfl rfl (by kernel_rfl) Try.func14 (by kernel_rfl)
    (of_decide_eq_true (by kernel_rfl)) (by unfold Func.isWrapper; first | (rw [if_pos (by decide +kernel)]; kernel_rfl) | (rw [if_neg (by decide +kernel)]; exact ⟨rfl, rfl⟩))
    (fun os started H enc _ => hillReached_lifted os started H enc)

theorem HillReached_holds : Rows.HillReachedSaid := hillReached_over

end Go.Proofs.Ytlnagjdokfkjoaa
