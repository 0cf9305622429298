/-
  HillHigher holds: with a greater Z of a station no ridge blocks that did not block before; with the rise no ridge blocks, with any smaller number some ridge does. No condition.
-/
import Derived.Test.YtojbdmdjepgpjaaMe
import Derived.Test.YtojbdmdjepgpjaaVc
namespace Go.Proofs.Ytojbdmdjepgpjaa
open Go.RowKit

theorem any_step {l : List Int} {k : Nat} {v z : Int} (h : l[k]? = some v) : ((l.take (k + 1)).any fun y => y == z) = (((l.take k).any fun y => y == z) || (v == z)) := by
  rw [List.take_add_one, h]
  simp

theorem st_cell {l : List St} {i j : Nat} {s : St} {v : Value} (h : l[i]? = some s) (hv : s.cells[j]? = some v) : (l.flatMap St.cells)[i * 4 + j]? = some v := flat_at (cells := St.cells) (sz := 4) (fun _ => rfl) l i s h j v hv
set_option maxRecDepth 100000 in
set_option maxHeartbeats 4000000 in
theorem higher_law (v1 v2 v3 v4 : Value) (L : Ld) (c : List (Value × List Cl)) (x y : Int) (w : World) (hL : LandAny w v1 v2 v3 v4 L c) (hx : 0 ≤ x ∧ x ≤ 255) (hy : 0 ≤ y ∧ y ≤ 65535) :
    Calls Try.prog 9 #[.agg #[v1, v2, v3, v4], .int .u8 x, .int .u16 y] w fun e w' => e = .returned (.bool true) ∧ Below w.heap.size w w' := by
  obtain ⟨hy0, hy1⟩ := hy
  have HA := Lib.hid hL
  obtain ⟨A1, cap1, rfl, _, _⟩ := hL.st.form
  obtain ⟨A2, cap2, rfl, _, _⟩ := hL.rg.form
  obtain ⟨A3, cap3, rfl, _, _⟩ := hL.cs.form
  obtain ⟨A4, cap4, rfl, _, _⟩ := hL.sn.form
  have Hcl := Lib.hid (show c.length = L.cs.length by rw [← hL.eq]; simp)
  clear hL
  cases hr : readyB L
  case false =>
    have Hr := Lib.hid hr
    clear hr
    go_enter Try.func9, Try.ntmps9
    go_wp2_with fail
    refine (Lready_any _ _ _ _ L c _ (HA.out.kept (up_alloc up0 _))).mono ?_
    rintro e y0 ⟨rfl, hb⟩
    rw [Hr.out]
    go_wp2_with fail
    refine (awake_any _).mono ?_
    rintro e y1 ⟨rfl, hb2⟩
    go_wp2_with fail
    go_ret
    exact ⟨rfl, up_later (up_later (up_alloc up0 _) hb) hb2⟩
  have hq := hr
  simp only [readyB, Bool.and_eq_true, beq_iff_eq, decide_eq_true_eq] at hq
  obtain ⟨⟨hth, he⟩, h1n⟩ := hq
  have hT := HA.out.thin hth
  have hok := land_ok he
  obtain ⟨_, hl6, hg6, hc0, hc4, hs0, hs12⟩ := hok.len
  have hcl := Hcl.out
  obtain ⟨i, hi, hin⟩ := nat_mod (x := x) (n := L.st.length) (by omega)
  obtain ⟨j, hj, hjn⟩ := nat_mod (x := x % (L.st.length : Int) + 1 + x / 8 % ((L.st.length : Int) - 1)) (n := L.st.length) (by omega)
  have hij : i ≠ j := by
    have h := mod_ne (n := (L.st.length : Int)) (x := x) (by omega)
    rw [hi] at h hj
    rw [hj] at h
    omega
  have o1 : ∀ k h : Nat, k < L.cs.length → h < L.sn.length → openI L k h [(i : Int), (j : Int)] = 0 := fun k h hk hh => open_zero he hin hjn hk hh hij
  have Hr := Lib.hid hr
  have HT0 := Lib.hid hT
  have Hpi := Lib.hid (show (pairI (L.st.length : Int) x).1 = i from hi)
  have Hpj := Lib.hid (show (pairI (L.st.length : Int) x).2 = j from hj)
  have hn1 : L.st.length ≤ 1000 := by omega
  have i0 : (0 : Int) ≤ (i : Int) := by omega
  have i1 : (i : Int) < (L.st.length : Int) := by omega
  have j0 : (0 : Int) ≤ (j : Int) := by omega
  have j1 : (j : Int) < (L.st.length : Int) := by omega
  have He := Lib.hid he
  have Hok := Lib.hid hok
  obtain ⟨s, hs⟩ : ∃ s, L.st[i]? = some s := ⟨_, List.getElem?_eq_getElem hin⟩
  obtain ⟨t, ht⟩ : ∃ s, L.st[j]? = some s := ⟨_, List.getElem?_eq_getElem hjn⟩
  obtain ⟨_, _, hsz0, hsz1⟩ := (hok.st s (List.mem_of_getElem? hs)).1
  obtain ⟨_, _, htz0, _⟩ := (hok.st t (List.mem_of_getElem? ht)).1
  have hrg := rg_zero he
  have y00 : 0 ≤ y % 300 := Int.emod_nonneg _ (by omega)
  have y9 : y % 300 < 300 := Int.emod_lt_of_pos _ (by omega)
  have kw : IntKind.i64.wrap y = y := wrapK_in _ 70000 (by omega) (by omega)
  have kt : y.tmod 300 = y % 300 := Int.tmod_eq_emod_of_nonneg hy0
  obtain ⟨u, hu, hu1⟩ : ∃ u : Nat, (if IntKind.i64.wrap (s.z + (IntKind.i64.wrap y).tmod 300) < 1000 then IntKind.i64.wrap (s.z + (IntKind.i64.wrap y).tmod 300) else 1000) = s.z + (u : Int) ∧ s.z + (u : Int) ≤ 1000 := by
    rw [kw, kt, wrapK_in (s.z + y % 300) 2000 (by omega) (by omega)]
    refine ⟨(min 1000 (s.z + y % 300) - s.z).toNat, ?_, ?_⟩
    · split <;> omega
    · omega
  have HS1 := Lib.hid hs
  have hset := Lib.hid (show (L.st.set i (lift s u))[i]? = some (lift s u) by simp [hin])
  have Hu := Lib.hid hu
  have he2 : errI (setSt L i (lift s u)) = 0 := lift_err he hs hu1
  have hsl : (setSt L i (lift s u)).st.length = L.st.length := by simp [setSt]
  have o2 : openI (setSt L i (lift s u)) (0 : Nat) (0 : Nat) [(i : Int), (j : Int)] = 0 := open_zero he2 (by omega) (by omega) (show 0 < L.cs.length by omega) (show 0 < L.sn.length by omega) hij
  obtain ⟨pl, hpl⟩ : ∃ p, p = whichB (blocksW (lift s 0) t) L.rg := ⟨_, rfl⟩
  obtain ⟨ql, hql⟩ : ∃ p, p = whichB (blocksW (lift s u) t) L.rg := ⟨_, rfl⟩
  have hmono : ∀ x ∈ L.rg, blocksW (lift s u) t x = true → blocksW (lift s 0) t x = true := fun x hx h => block_mono (hrg x hx).2 hsz0 htz0 (Nat.zero_le u) h
  have hpq : ∀ z ∈ ql, z ∈ pl := by rw [hpl, hql]; exact which_mono hmono
  have hle : ql.length ≤ pl.length := by rw [hpl, hql]; exact which_len hmono
  have HPQ := Lib.hid hpq
  have HW1 := Lib.hid (show wallsE L i j 0 0 = (pl, cloudsI L i j 0 0, 0) by
    have := o1 0 0 (by omega) (by omega)
    unfold wallsE
    rw [if_neg (by simpa using this), here_ridges hs ht, hpl])
  have HW2 := Lib.hid (show wallsE (setSt L i (lift s u)) i j 0 0 = (ql, cloudsI (setSt L i (lift s u)) i j 0 0, 0) by
    unfold wallsE
    rw [if_neg (by simpa using o2), lift_ridges hs ht hij, hql])
  obtain ⟨⟨rn, rg⟩, hR⟩ : ∃ q, riseI L i j = q := ⟨_, rfl⟩
  have HR := Lib.hid hR
  have HCA := Lib.hid (show (rn = 0 ∧ rg = 9 ∧ ql ≠ []) ∨ ∃ n : Nat, rn = (n : Int) ∧ rg = 0 ∧ s.z + (n : Int) ≤ 1000 ∧ ((u : Int) < (n : Int) ↔ ql ≠ []) ∧ wallsE (setSt L i (lift s n)) i j 0 0 = ([], cloudsI (setSt L i (lift s n)) i j 0 0, 0) by
    have := o1 0 0 (by omega) (by omega)
    unfold riseI at hR
    rw [if_neg (by simpa using this), stAt_this hs, stAt_this ht] at hR
    cases hf : List.find? (clearB L s t) (List.range (1000 - s.z + 1).toNat) with
    | none =>
      rw [hf] at hR
      simp only [Prod.mk.injEq] at hR
      refine .inl ⟨hR.1.symm, hR.2.symm, fun e => ?_⟩
      rw [hql] at e
      have h1 := clear_which.2 e
      have h2 := List.find?_eq_none.1 hf u (List.mem_range.2 (by omega))
      exact h2 h1
    | some n =>
      rw [hf] at hR
      simp only [Prod.mk.injEq] at hR
      obtain ⟨h1, h2, h3⟩ := rise_parts hrg hsz0 htz0 hf
      have hn1 : s.z + (n : Int) ≤ 1000 := by omega
      refine .inr ⟨n, hR.1.symm, hR.2.symm, hn1, ⟨fun h e => ?_, fun h => ?_⟩, ?_⟩
      · rw [hql] at e
        have := (h3 u).1 (clear_which.2 e)
        omega
      · rcases Nat.lt_or_ge u n with hlt | hge
        · omega
        · exact absurd (by rw [hql]; exact clear_which.1 ((h3 u).2 hge)) h
      · have e3 : errI (setSt L i (lift s n)) = 0 := lift_err he hs hn1
        have hl3 : (setSt L i (lift s n)).st.length = L.st.length := by simp [setSt]
        have := open_zero (k := 0) (h := 0) e3 (show i < (setSt L i (lift s n)).st.length by omega) (show j < (setSt L i (lift s n)).st.length by omega) (show 0 < L.cs.length by omega) (show 0 < L.sn.length by omega) hij
        unfold wallsE
        rw [if_neg (by simpa using this), lift_ridges hs ht hij, clear_which.1 h2])
  clear hR hpl hql
  have Hall := Lib.hid (lens hT)
  have K2 : IntKind.i64.wrap (s.z + (u : Int) - s.z) = (u : Int) := by rw [show s.z + (u : Int) - s.z = u by omega]; exact wrapK_in _ 2000 (by omega) (by omega)
  clear hr hT hok hi hj hth hcl hpq hmono he he2 o2 kw kt y00 y9 hu hs ht
  obtain ⟨ba, oa, rfl, _, _⟩ := HT0.out.st.at rfl HS1.out
  go_enter Try.func9, Try.ntmps9
  go_wp2_with fail
  have BX := Lib.hid (Box.new (w := w) (t := 27) (cs := #[.slice (some ⟨ba, oa, none⟩) L.st.length cap1, .slice A2 L.rg.length cap2, .slice A3 c.length cap3, .slice A4 L.sn.length cap4]) rfl)
  have HB := Lib.hid (up_alloc (up0 (w := w)) (.cells #[.slice (some ⟨ba, oa, none⟩) L.st.length cap1, .slice A2 L.rg.length cap2, .slice A3 c.length cap3, .slice A4 L.sn.length cap4] 27))
  have HT := Lib.hid (HT0.out.kept HB.out)
  refine (Lready_any _ _ _ _ L c _ (HA.out.kept HB.out)).mono ?_
  rintro e y0 ⟨rfl, hb⟩
  rw [Hr.out]
  have HB := Lib.hid (up_later HB.out hb)
  have HT := Lib.hid (HT.out.kept hb)
  have BX := Lib.hid (BX.out.kept hb)
  clear hb
  have BB := BX.out
  have cB := fun i => BB.cell i
  go_wp2_with fail
  clear cB BB
  refine (Lpair_any _ L.st.length cap1 _ _ _ x _ h1n hn1 hx).mono ?_
  rintro e y1 ⟨rfl, hb⟩
  rw [Hpi.out, Hpj.out]
  have HB := Lib.hid (up_later HB.out hb)
  have HT := Lib.hid (HT.out.kept hb)
  have BX := Lib.hid (BX.out.kept hb)
  clear hb
  have BB := BX.out
  have cB := fun i => BB.cell i
  go_wp2_with fail
  clear cB BB
  refine (copied_any _ _ _ _ L c _ HT.out).mono ?_
  rintro e y2 ⟨u1, u2, u3, u4, cx, rfl, hcop, hb⟩
  obtain ⟨F1, m1, p1, rfl⟩ := own_form hcop.o1
  obtain ⟨F2, m2, p2, rfl⟩ := own_form hcop.o2
  obtain ⟨F3, m3, p3, rfl⟩ := own_form hcop.o3
  obtain ⟨F4, m4, p4, rfl⟩ := own_form hcop.o4
  obtain ⟨b1, f1, rfl, hb1l, hq1⟩ := (hcop.land (by omega) (by omega) (by omega) (by omega) Hall.out).st.at rfl HS1.out
  obtain ⟨rfl, rfl, _⟩ := own_put (i := 0) (u := iv 0) hcop.o1
  have hlo := (hcop.o1.lt b1 rfl).1
  have hhi := (hcop.o1.lt b1 rfl).2
  have HCP := Lib.hid hcop
  have HCB := Lib.hid hb
  clear hcop hb hq1
  go_wp2_with fail
  have XB := Box.new (w := y2) (t := 27) (cs := #[.slice (some ⟨b1, 0, none⟩) L.st.length p1, .slice F2 m2 p2, .slice F3 m3 p3, .slice F4 m4 p4]) rfl
  have HC1 := Lib.hid (HCP.out.kept (up_alloc up0 (.cells #[.slice (some ⟨b1, 0, none⟩) L.st.length p1, .slice F2 m2 p2, .slice F3 m3 p3, .slice F4 m4 p4] 27)))
  have hb0 := Lib.hid (up_alloc HCB.out (.cells #[.slice (some ⟨b1, 0, none⟩) L.st.length p1, .slice F2 m2 p2, .slice F3 m3 p3, .slice F4 m4 p4] 27))
  apply wp_region_by 16 [(Fact.eq _), (Fact.eq _), (Fact.eq _), (Fact.eq _), (Fact.eq _), (Fact.eq _), (Fact.eq _), (Fact.eq _), (Fact.eq _), (Fact.eq _), (Fact.eq _), (Fact.eq _), (Fact.eq _), (Fact.eq _), (Fact.eq _), (Fact.eq _)]
  case hm => kernel_rfl
  case hB => kernel_rfl
  case hA => (intro vs; simp only [List.take_succ_cons, List.take_zero, putAll, if_true, Act.put, List.setIfInBounds_toArray, List.set_cons_zero, List.set_cons_succ]; exact rfl)
  case hstep =>
    intro vs
    refine And.intro (fun w hw hd => ?_) ?_
    · refine ite_yes rfl ?_
      simp only [Gives]
      go_simp
      exact ⟨Below.refl _ _, rfl, fun h => by cases h⟩
    refine And.intro (fun w hw hd => ?_) ?_
    · have d0 := hd 0 (by decide) rfl
      change vs 0 = _ at d0
      refine ite_yes rfl ?_
      have c_XB := fun i => (XB.kept hw).cell i
      simp only [Gives]
      go_simp
      exact ⟨Below.refl _ _, rfl, fun h => by cases h⟩
    refine And.intro (fun w hw hd => ?_) ?_
    · refine ite_yes rfl ?_
      simp only [Gives]
      go_simp
      exact ⟨Below.refl _ _, rfl, fun h => by cases h⟩
    refine And.intro (fun w hw hd => ?_) ?_
    · refine ite_yes rfl ?_
      simp only [Gives]
      go_simp
      exact ⟨Below.refl _ _, rfl, fun h => by cases h⟩
    refine And.intro (fun w hw hd => ?_) ?_
    · have d3 := hd 3 (by decide) rfl
      change vs 3 = _ at d3
      refine ite_yes rfl ?_
      have c_XB := fun i => (XB.kept hw).cell i
      simp only [Gives]
      go_simp
      exact ⟨Below.refl _ _, rfl, fun h => by cases h⟩
    refine And.intro (fun w hw hd => ?_) ?_
    · refine ite_yes rfl ?_
      simp only [Gives]
      go_simp
      exact ⟨Below.refl _ _, rfl, fun h => by cases h⟩
    refine And.intro (fun w hw hd => ?_) ?_
    · have d4 := hd 4 (by decide) rfl
      change vs 4 = _ at d4
      have d5 := hd 5 (by decide) rfl
      change vs 5 = _ at d5
      refine ite_yes rfl ?_
      simp only [Gives]
      go_simp
      exact ⟨Below.refl _ _, rfl, fun h => by cases h⟩
    refine And.intro (fun w hw hd => ?_) ?_
    · have d6 := hd 6 (by decide) rfl
      change vs 6 = _ at d6
      refine ite_yes rfl ?_
      simp only [Gives]
      go_simp
      exact ⟨Below.refl _ _, rfl, fun h => by cases h⟩
    refine And.intro (fun w hw hd => ?_) ?_
    · have d7 := hd 7 (by decide) rfl
      change vs 7 = _ at d7
      refine ite_yes rfl ?_
      have c_XB := fun i => (XB.kept hw).cell i
      have q0 : w.cell? ⟨b1, i * 4 + 2, none⟩ = some (.int .i64 s.z) := own_cell (HC1.out.kept hw).o1 (st_cell HS1.out rfl)
      simp only [Gives]
      go_simp
      exact ⟨Below.refl _ _, rfl, fun h => by cases h⟩
    refine And.intro (fun w hw hd => ?_) ?_
    · refine ite_yes rfl ?_
      simp only [Gives]
      go_simp
      exact ⟨Below.refl _ _, rfl, fun h => by cases h⟩
    refine And.intro (fun w hw hd => ?_) ?_
    · have d9 := hd 9 (by decide) rfl
      change vs 9 = _ at d9
      refine ite_yes rfl ?_
      simp only [Gives]
      go_simp
      exact ⟨Below.refl _ _, rfl, fun h => by cases h⟩
    refine And.intro (fun w hw hd => ?_) ?_
    · have d10 := hd 10 (by decide) rfl
      change vs 10 = _ at d10
      refine ite_yes rfl ?_
      simp only [Gives]
      go_simp
      exact ⟨Below.refl _ _, rfl, fun h => by cases h⟩
    refine And.intro (fun w hw hd => ?_) ?_
    · have d8 := hd 8 (by decide) rfl
      change vs 8 = _ at d8
      have d11 := hd 11 (by decide) rfl
      change vs 11 = _ at d11
      refine ite_yes rfl ?_
      simp only [Gives]
      go_simp
      exact ⟨Below.refl _ _, rfl, fun h => by cases h⟩
    refine And.intro (fun w hw hd => ?_) ?_
    · have d12 := hd 12 (by decide) rfl
      change vs 12 = _ at d12
      refine ite_yes rfl ?_
      simp only [Gives]
      go_simp
      exact ⟨Below.refl _ _, rfl, fun h => by cases h⟩
    refine And.intro (fun w hw hd => ?_) ?_
    · have d1 := hd 1 (by decide) rfl
      change vs 1 = _ at d1
      have d2 := hd 2 (by decide) rfl
      change vs 2 = _ at d2
      refine ite_yes rfl ?_
      simp only [Gives]
      go_simp
      exact ⟨Below.refl _ _, rfl, fun h => by cases h⟩
    refine And.intro (fun w hw hd => ?_) ?_
    · have d14 := hd 14 (by decide) rfl
      change vs 14 = _ at d14
      refine ite_yes rfl ?_
      simp only [Gives]
      go_simp
      exact ⟨Below.refl _ _, rfl, fun h => by cases h⟩
    exact trivial
  intro vs wt hw hd hne hlo
  have d0 := hd 0 (by decide)
  change vs 0 = _ at d0
  have d1 := hd 1 (by decide)
  change vs 1 = _ at d1
  have d2 := hd 2 (by decide)
  change vs 2 = _ at d2
  have d3 := hd 3 (by decide)
  change vs 3 = _ at d3
  have d4 := hd 4 (by decide)
  change vs 4 = _ at d4
  have d5 := hd 5 (by decide)
  change vs 5 = _ at d5
  have d6 := hd 6 (by decide)
  change vs 6 = _ at d6
  have d7 := hd 7 (by decide)
  change vs 7 = _ at d7
  have d8 := hd 8 (by decide)
  change vs 8 = _ at d8
  have d9 := hd 9 (by decide)
  change vs 9 = _ at d9
  have d10 := hd 10 (by decide)
  change vs 10 = _ at d10
  have d11 := hd 11 (by decide)
  change vs 11 = _ at d11
  have d12 := hd 12 (by decide)
  change vs 12 = _ at d12
  have d13 := hd 13 (by decide)
  change vs 13 = _ at d13
  have d14 := hd 14 (by decide)
  change vs 14 = _ at d14
  have d15 := hd 15 (by decide)
  change vs 15 = _ at d15
  simp only [d0, d1, d2, d3, d4, d5, d6, d7, d8, d9, d10, d11, d12, d13, d14, d15, List.drop_succ_cons, List.drop_zero]
  have XB := XB.kept hw
  have c_XB := fun i => XB.cell i
  have f_XB := fun i => XB.free i
  clear hd hne hlo d0 d1 d2 d3 d4 d5 d6 d7 d8 d9 d10 d11 d12 d13 d14 d15
  have q2 : wt.cell? ⟨b1, i * 4 + 2, none⟩ = some (.int .i64 s.z) := own_cell (HC1.out.kept hw).o1 (st_cell HS1.out rfl)
  have f2 : wt.frozen? ⟨b1, i * 4 + 2, none⟩ = false := own_free (HC1.out.kept hw).o1
  simp only [Hu.out]
  have hlx := BX.out.lt
  have BX2 := ((BX.out.kept hb0.out).kept hw).far (p := ⟨b1, i * 4 + 2, none⟩) (by simp; omega) (.int .i64 (s.z + (u : Int)))
  have cX := fun i => BX2.cell i
  go_wp2_with fail
  have XB := Lib.hid (XB.far (p := ⟨b1, i * 4 + 2, none⟩) (by simp; omega) (.int .i64 (s.z + (u : Int))))
  have HC := Lib.hid (show Cop 74 79 80 60 82 _ (setSt L i (lift s u)) _ (.slice (some ⟨b1, 0, none⟩) L.st.length p1) (.slice F2 m2 p2) (.slice F3 m3 p3) (.slice F4 m4 p4) cx from
    ((HC1.out.kept hw).putSt (j := 2) (s' := lift s u) (u := .int .i64 (s.z + (u : Int))) HS1.out (by omega) rfl (by decide) (by decide) (by decide) (by decide)).2)
  have hb := up_put (up_later hb0.out hw) (p := ⟨b1, i * 4 + 2, none⟩) hlo (.int .i64 (s.z + (u : Int)))
  clear cX BX2 hw q2 f2 hb0 HC1 HCP HCB c_XB f_XB
  have HB := Lib.hid (up_later HB.out hb)
  have HT := Lib.hid (HT.out.kept hb)
  have BX := Lib.hid (BX.out.kept hb)
  clear hb
  refine (Land_any _ _ _ _ L c _ HT.out).mono ?_
  rintro e ya ⟨a1, a2, a3, a4, ca, rfl, hl, hb⟩
  have Hl := Lib.hid hl
  clear hl
  have HB := Lib.hid (up_later HB.out hb)
  have HT := Lib.hid (HT.out.kept hb)
  have BX := Lib.hid (BX.out.kept hb)
  have XB := Lib.hid (XB.out.kept hb)
  have HC := Lib.hid (HC.out.kept hb)
  clear hb
  go_wp2_with fail
  have AA := Walls_any _ _ _ _ L _ i j 0 0 ya Hl.out
  rw [HW1.out] at AA
  refine AA.mono ?_
  rintro e yb ⟨r1, r2, rfl, hp, hq, hb⟩
  obtain ⟨_, Ap, pp, rfl, _, _⟩ := hp.form
  obtain ⟨_, Aq, pq, rfl, _, _⟩ := hq.form
  have HP := Lib.hid hp
  clear AA Hl hp hq
  have HB := Lib.hid (up_later HB.out hb)
  have HT := Lib.hid (HT.out.kept hb)
  have BX := Lib.hid (BX.out.kept hb)
  have XB := Lib.hid (XB.out.kept hb)
  have HC := Lib.hid (HC.out.kept hb)
  clear hb
  have BB := XB.out
  have cB := fun i => BB.cell i
  go_wp2_with fail
  clear cB BB
  have HX := Lib.hid (HC.out.land (by rw [hsl]; omega) (by show L.rg.length ≤ 1000; omega) (by show L.cs.length ≤ 1000; omega) (by show L.sn.length ≤ 1000; omega) Hall.out)
  refine (Land_any _ _ _ _ (setSt L i (lift s u)) cx _ HX.out).mono ?_
  rintro e ya ⟨a1, a2, a3, a4, ca, rfl, hl, hb⟩
  have Hl := Lib.hid hl
  clear hl HX
  have HB := Lib.hid (up_later HB.out hb)
  have HT := Lib.hid (HT.out.kept hb)
  have BX := Lib.hid (BX.out.kept hb)
  have XB := Lib.hid (XB.out.kept hb)
  have HC := Lib.hid (HC.out.kept hb)
  have HP := Lib.hid (HP.out.kept hb)
  clear hb
  go_wp2_with fail
  have AA := Walls_any _ _ _ _ (setSt L i (lift s u)) _ i j 0 0 ya Hl.out
  rw [HW2.out] at AA
  refine AA.mono ?_
  rintro e yb ⟨r1, r2, rfl, hp, hq, hb⟩
  obtain ⟨_, Ap, pp, rfl, _, _⟩ := hp.form
  obtain ⟨_, Aq, pq, rfl, _, _⟩ := hq.form
  have HQ := Lib.hid hp
  clear AA Hl hp hq
  have HB := Lib.hid (up_later HB.out hb)
  have HT := Lib.hid (HT.out.kept hb)
  have BX := Lib.hid (BX.out.kept hb)
  have XB := Lib.hid (XB.out.kept hb)
  have HC := Lib.hid (HC.out.kept hb)
  have HP := Lib.hid (HP.out.kept hb)
  clear hb
  have BB := BX.out
  have cB := fun i => BB.cell i
  go_wp2_with fail
  clear cB BB
  refine (Land_any _ _ _ _ L c _ HT.out).mono ?_
  rintro e ya ⟨a1, a2, a3, a4, ca, rfl, hl, hb⟩
  have Hl := Lib.hid hl
  clear hl
  have HB := Lib.hid (up_later HB.out hb)
  have HT := Lib.hid (HT.out.kept hb)
  have BX := Lib.hid (BX.out.kept hb)
  have XB := Lib.hid (XB.out.kept hb)
  have HC := Lib.hid (HC.out.kept hb)
  have HP := Lib.hid (HP.out.kept hb)
  have HQ := Lib.hid (HQ.out.kept hb)
  clear hb
  go_wp2_with fail
  have AA := Rise_any _ _ _ _ L _ i j ya Hl.out
  rw [HR.out] at AA
  refine AA.mono ?_
  rintro e yr ⟨rfl, hb⟩
  clear AA Hl
  have HB := Lib.hid (up_later HB.out hb)
  have HT := Lib.hid (HT.out.kept hb)
  have BX := Lib.hid (BX.out.kept hb)
  have XB := Lib.hid (XB.out.kept hb)
  have HC := Lib.hid (HC.out.kept hb)
  have HP := Lib.hid (HP.out.kept hb)
  have HQ := Lib.hid (HQ.out.kept hb)
  clear hb
  rcases HCA.out with ⟨rfl, rfl, hq⟩ | ⟨n, rfl, rfl, hn, hq0, hwn⟩
  · have c1 : (0 : Int) < (ql.length : Int) := by
      have := List.length_pos_iff.2 hq
      omega
    clear hq
    go_wp2_with fail
    go_loopw [18] (fun q wr => ∃ m : Nat, m ≤ ql.length ∧ q = .int .i64 m ∧ Hid (Below yr.heap.size yr wr)) (fun q _ => ql.length - (intOf q).toNat)
    case atStart => exact ⟨0, by omega, rfl, up0⟩
    case round =>
      obtain ⟨a, ha, rfl, hY⟩ := hrel
      have a0 : (0 : Int) ≤ (a : Int) := by omega
      by_cases hlt : a < ql.length
      · obtain ⟨z, hz⟩ : ∃ z, ql[a]? = some z := ⟨_, List.getElem?_eq_getElem hlt⟩
        have Hz := Lib.hid hz
        have a1 : (a : Int) < (ql.length : Int) := by omega
        clear hz
        go_wp2_with fail
        go_loopw [19, 20] (fun h q wi => ∃ k : Nat, k ≤ pl.length ∧ q = .int .i64 k ∧ h = .bool ((pl.take k).any fun y => y == z) ∧ Hid (Below yr.heap.size yr wi)) (fun _ q _ => pl.length - (intOf q).toNat)
        case atStart => exact ⟨0, by omega, rfl, by simp, hY.out⟩
        case round =>
          clear hY
          obtain ⟨k, hk, rfl, rfl, hY⟩ := hrel
          have k0 : (0 : Int) ≤ (k : Int) := by omega
          by_cases hkl : k < pl.length
          · obtain ⟨v, hv⟩ : ∃ v, pl[k]? = some v := ⟨_, List.getElem?_eq_getElem hkl⟩
            have Hv := Lib.hid hv
            have k1 : (k : Int) < (pl.length : Int) := by omega
            have HR1 := Lib.hid (HQ.out.kept hY.out)
            have HR2 := Lib.hid (HP.out.kept hY.out)
            obtain ⟨b2, o2, rfl, _, _⟩ := HR2.out.at rfl hv
            obtain ⟨b9, o9, rfl, _, _⟩ := HR1.out.at rfl Hz.out
            clear hv
            cases hh : (pl.take k).any fun y => y == z with
            | true =>
              have Hh := Lib.hid hh
              clear hh
              go_wp2_with fail
              apply wp_region_by 12 [(Fact.eq _), (Fact.eq _), (Fact.eq _), (Fact.eq _), (Fact.eq _), (Fact.eq _), (Fact.eq _), (Fact.eq _), (Fact.eq _), (Fact.eq _), (Fact.eq _), (Fact.eq _)]
              case hm => kernel_rfl
              case hB => kernel_rfl
              case hA => (intro vs; simp only [List.take_succ_cons, List.take_zero, putAll, if_true, Act.put, List.setIfInBounds_toArray, List.set_cons_zero, List.set_cons_succ]; exact rfl)
              case hstep =>
                intro vs
                refine And.intro (fun w hw hd => ?_) ?_
                · refine ite_yes rfl ?_
                  simp only [Gives]
                  go_simp
                  exact ⟨Below.refl _ _, rfl, fun h => by cases h⟩
                refine And.intro (fun w hw hd => ?_) ?_
                · have d0 := hd 0 (by decide) rfl
                  change vs 0 = _ at d0
                  refine ite_yes rfl ?_
                  simp only [Gives]
                  go_simp
                  exact ⟨Below.refl _ _, rfl, fun h => by cases h⟩
                refine And.intro (fun w hw hd => ?_) ?_
                · have d1 := hd 1 (by decide) rfl
                  change vs 1 = _ at d1
                  refine ite_no (by simp [Region.wanted, yielded, d1]) ?_
                  exact ⟨rfl, rfl⟩
                refine And.intro (fun w hw hd => ?_) ?_
                · have d1 := hd 1 (by decide) rfl
                  change vs 1 = _ at d1
                  refine ite_no (by simp [Region.wanted, yielded, d1]) ?_
                  exact ⟨rfl, rfl⟩
                refine And.intro (fun w hw hd => ?_) ?_
                · have d2 := hd 2 (by decide) rfl
                  change vs 2 = _ at d2
                  have d3 := hd 3 (by decide) rfl
                  change vs 3 = _ at d3
                  have d1 := hd 1 (by decide) rfl
                  change vs 1 = _ at d1
                  refine ite_no (by simp [Region.wanted, yielded, d1]) ?_
                  exact ⟨rfl, rfl⟩
                refine And.intro (fun w hw hd => ?_) ?_
                · have d4 := hd 4 (by decide) rfl
                  change vs 4 = _ at d4
                  have d1 := hd 1 (by decide) rfl
                  change vs 1 = _ at d1
                  refine ite_no (by simp [Region.wanted, yielded, d1]) ?_
                  exact ⟨rfl, rfl⟩
                refine And.intro (fun w hw hd => ?_) ?_
                · have d1 := hd 1 (by decide) rfl
                  change vs 1 = _ at d1
                  refine ite_no (by simp [Region.wanted, yielded, d1]) ?_
                  exact ⟨rfl, rfl⟩
                refine And.intro (fun w hw hd => ?_) ?_
                · have d1 := hd 1 (by decide) rfl
                  change vs 1 = _ at d1
                  refine ite_no (by simp [Region.wanted, yielded, d1]) ?_
                  exact ⟨rfl, rfl⟩
                refine And.intro (fun w hw hd => ?_) ?_
                · have d6 := hd 6 (by decide) rfl
                  change vs 6 = _ at d6
                  have d7 := hd 7 (by decide) rfl
                  change vs 7 = _ at d7
                  have d1 := hd 1 (by decide) rfl
                  change vs 1 = _ at d1
                  refine ite_no (by simp [Region.wanted, yielded, d1]) ?_
                  exact ⟨rfl, rfl⟩
                refine And.intro (fun w hw hd => ?_) ?_
                · have d8 := hd 8 (by decide) rfl
                  change vs 8 = _ at d8
                  have d1 := hd 1 (by decide) rfl
                  change vs 1 = _ at d1
                  refine ite_no (by simp [Region.wanted, yielded, d1]) ?_
                  exact ⟨rfl, rfl⟩
                refine And.intro (fun w hw hd => ?_) ?_
                · have d5 := hd 5 (by decide) rfl
                  change vs 5 = _ at d5
                  have d9 := hd 9 (by decide) rfl
                  change vs 9 = _ at d9
                  have d1 := hd 1 (by decide) rfl
                  change vs 1 = _ at d1
                  refine ite_no (by simp [Region.wanted, yielded, d1]) ?_
                  exact ⟨rfl, rfl⟩
                refine And.intro (fun w hw hd => ?_) ?_
                · have d1 := hd 1 (by decide) rfl
                  change vs 1 = _ at d1
                  have d10 := hd 10 (by decide) rfl
                  change vs 10 = _ at d10
                  refine ite_yes rfl ?_
                  simp only [Gives]
                  go_simp
                  exact ⟨Below.refl _ _, rfl, fun h => by cases h⟩
                exact trivial
              intro vs wt hw hd hne hlo
              have d0 := hd 0 (by decide)
              change vs 0 = _ at d0
              have d1 := hd 1 (by decide)
              change vs 1 = _ at d1
              have d2 := hd 2 (by decide)
              change vs 2 = _ at d2
              have d3 := hd 3 (by decide)
              change vs 3 = _ at d3
              have d4 := hd 4 (by decide)
              change vs 4 = _ at d4
              have d5 := hd 5 (by decide)
              change vs 5 = _ at d5
              have d6 := hd 6 (by decide)
              change vs 6 = _ at d6
              have d7 := hd 7 (by decide)
              change vs 7 = _ at d7
              have d8 := hd 8 (by decide)
              change vs 8 = _ at d8
              have d9 := hd 9 (by decide)
              change vs 9 = _ at d9
              have d10 := hd 10 (by decide)
              change vs 10 = _ at d10
              have d11 := hd 11 (by decide)
              change vs 11 = _ at d11
              simp only [d0, d1, d2, d3, d4, d5, d6, d7, d8, d9, d10, d11, List.drop_succ_cons, List.drop_zero]
              clear hd hne hlo d0 d1 d2 d3 d4 d5 d6 d7 d8 d9 d10 d11
              go_wp2_with fail
              exact ⟨⟨k + 1, by omega, by go_num, by rw [any_step Hv.out, Hh.out]; rfl, up_later hY.out hw⟩, by simp [intOf]; omega⟩
            | false =>
              have Hh := Lib.hid hh
              clear hh
              cases hyx : (v == z) with
              | true =>
                have Hyx := Lib.hid hyx
                go_wp2_with fail
                apply wp_region_by 12 [(Fact.eq _), (Fact.eq _), (Fact.eq _), (Fact.eq _), (Fact.eq _), (Fact.eq _), (Fact.eq _), (Fact.eq _), (Fact.eq _), (Fact.eq _), (Fact.eq _), (Fact.eq _)]
                case hm => kernel_rfl
                case hB => kernel_rfl
                case hA => (intro vs; simp only [List.take_succ_cons, List.take_zero, putAll, if_true, Act.put, List.setIfInBounds_toArray, List.set_cons_zero, List.set_cons_succ]; exact rfl)
                case hstep =>
                  intro vs
                  refine And.intro (fun w hw hd => ?_) ?_
                  · refine ite_yes rfl ?_
                    simp only [Gives]
                    go_simp
                    exact ⟨Below.refl _ _, rfl, fun h => by cases h⟩
                  refine And.intro (fun w hw hd => ?_) ?_
                  · have d0 := hd 0 (by decide) rfl
                    change vs 0 = _ at d0
                    refine ite_yes rfl ?_
                    simp only [Gives]
                    go_simp
                    exact ⟨Below.refl _ _, rfl, fun h => by cases h⟩
                  refine And.intro (fun w hw hd => ?_) ?_
                  · have d1 := hd 1 (by decide) rfl
                    change vs 1 = _ at d1
                    refine ite_yes (by simp [Region.wanted, yielded, d1]) ?_
                    simp only [Gives]
                    go_simp
                    exact ⟨Below.refl _ _, rfl, fun h => by cases h⟩
                  refine And.intro (fun w hw hd => ?_) ?_
                  · have d1 := hd 1 (by decide) rfl
                    change vs 1 = _ at d1
                    refine ite_yes (by simp [Region.wanted, yielded, d1]) ?_
                    simp only [Gives]
                    go_simp
                    exact ⟨Below.refl _ _, rfl, fun h => by cases h⟩
                  refine And.intro (fun w hw hd => ?_) ?_
                  · have d2 := hd 2 (by decide) rfl
                    change vs 2 = _ at d2
                    have d3 := hd 3 (by decide) rfl
                    change vs 3 = _ at d3
                    have d1 := hd 1 (by decide) rfl
                    change vs 1 = _ at d1
                    refine ite_yes (by simp [Region.wanted, yielded, d1]) ?_
                    simp only [Gives]
                    go_simp
                    exact ⟨Below.refl _ _, rfl, fun h => by cases h⟩
                  refine And.intro (fun w hw hd => ?_) ?_
                  · have d4 := hd 4 (by decide) rfl
                    change vs 4 = _ at d4
                    have d1 := hd 1 (by decide) rfl
                    change vs 1 = _ at d1
                    refine ite_yes (by simp [Region.wanted, yielded, d1]) ?_
                    have q0 : w.cell? ⟨b9, o9 + a, none⟩ = some (.int .i64 z) := by simpa using (HR1.out.kept hw).cellAt Hz.out (j := 0) rfl
                    have q1 : w.cell? ⟨b2, o2 + k, none⟩ = some (.int .i64 v) := by simpa using (HR2.out.kept hw).cellAt Hv.out (j := 0) rfl
                    simp only [Gives]
                    go_simp
                    exact ⟨Below.refl _ _, rfl, fun h => by cases h⟩
                  refine And.intro (fun w hw hd => ?_) ?_
                  · have d1 := hd 1 (by decide) rfl
                    change vs 1 = _ at d1
                    refine ite_yes (by simp [Region.wanted, yielded, d1]) ?_
                    simp only [Gives]
                    go_simp
                    exact ⟨Below.refl _ _, rfl, fun h => by cases h⟩
                  refine And.intro (fun w hw hd => ?_) ?_
                  · have d1 := hd 1 (by decide) rfl
                    change vs 1 = _ at d1
                    refine ite_yes (by simp [Region.wanted, yielded, d1]) ?_
                    simp only [Gives]
                    go_simp
                    exact ⟨Below.refl _ _, rfl, fun h => by cases h⟩
                  refine And.intro (fun w hw hd => ?_) ?_
                  · have d6 := hd 6 (by decide) rfl
                    change vs 6 = _ at d6
                    have d7 := hd 7 (by decide) rfl
                    change vs 7 = _ at d7
                    have d1 := hd 1 (by decide) rfl
                    change vs 1 = _ at d1
                    refine ite_yes (by simp [Region.wanted, yielded, d1]) ?_
                    simp only [Gives]
                    go_simp
                    exact ⟨Below.refl _ _, rfl, fun h => by cases h⟩
                  refine And.intro (fun w hw hd => ?_) ?_
                  · have d8 := hd 8 (by decide) rfl
                    change vs 8 = _ at d8
                    have d1 := hd 1 (by decide) rfl
                    change vs 1 = _ at d1
                    refine ite_yes (by simp [Region.wanted, yielded, d1]) ?_
                    have q0 : w.cell? ⟨b9, o9 + a, none⟩ = some (.int .i64 z) := by simpa using (HR1.out.kept hw).cellAt Hz.out (j := 0) rfl
                    have q1 : w.cell? ⟨b2, o2 + k, none⟩ = some (.int .i64 v) := by simpa using (HR2.out.kept hw).cellAt Hv.out (j := 0) rfl
                    simp only [Gives]
                    go_simp
                    exact ⟨Below.refl _ _, rfl, fun h => by cases h⟩
                  refine And.intro (fun w hw hd => ?_) ?_
                  · have d5 := hd 5 (by decide) rfl
                    change vs 5 = _ at d5
                    have d9 := hd 9 (by decide) rfl
                    change vs 9 = _ at d9
                    have d1 := hd 1 (by decide) rfl
                    change vs 1 = _ at d1
                    refine ite_yes (by simp [Region.wanted, yielded, d1]) ?_
                    simp only [Gives]
                    go_simp
                    exact ⟨Below.refl _ _, rfl, fun h => by cases h⟩
                  refine And.intro (fun w hw hd => ?_) ?_
                  · have d1 := hd 1 (by decide) rfl
                    change vs 1 = _ at d1
                    have d10 := hd 10 (by decide) rfl
                    change vs 10 = _ at d10
                    refine ite_yes rfl ?_
                    simp only [Gives]
                    go_simp
                    exact ⟨Below.refl _ _, rfl, fun h => by cases h⟩
                  exact trivial
                intro vs wt hw hd hne hlo
                have d0 := hd 0 (by decide)
                change vs 0 = _ at d0
                have d1 := hd 1 (by decide)
                change vs 1 = _ at d1
                have d2 := hd 2 (by decide)
                change vs 2 = _ at d2
                have d3 := hd 3 (by decide)
                change vs 3 = _ at d3
                have d4 := hd 4 (by decide)
                change vs 4 = _ at d4
                have d5 := hd 5 (by decide)
                change vs 5 = _ at d5
                have d6 := hd 6 (by decide)
                change vs 6 = _ at d6
                have d7 := hd 7 (by decide)
                change vs 7 = _ at d7
                have d8 := hd 8 (by decide)
                change vs 8 = _ at d8
                have d9 := hd 9 (by decide)
                change vs 9 = _ at d9
                have d10 := hd 10 (by decide)
                change vs 10 = _ at d10
                have d11 := hd 11 (by decide)
                change vs 11 = _ at d11
                simp only [d0, d1, d2, d3, d4, d5, d6, d7, d8, d9, d10, d11, List.drop_succ_cons, List.drop_zero]
                clear hd hne hlo d0 d1 d2 d3 d4 d5 d6 d7 d8 d9 d10 d11
                go_wp2_with fail
                exact ⟨⟨k + 1, by omega, by go_num, by rw [any_step Hv.out, Hh.out, Hyx.out]; rfl, up_later hY.out hw⟩, by simp [intOf]; omega⟩
              | false =>
                have Hyx := Lib.hid hyx
                go_wp2_with fail
                apply wp_region_by 12 [(Fact.eq _), (Fact.eq _), (Fact.eq _), (Fact.eq _), (Fact.eq _), (Fact.eq _), (Fact.eq _), (Fact.eq _), (Fact.eq _), (Fact.eq _), (Fact.eq _), (Fact.eq _)]
                case hm => kernel_rfl
                case hB => kernel_rfl
                case hA => (intro vs; simp only [List.take_succ_cons, List.take_zero, putAll, if_true, Act.put, List.setIfInBounds_toArray, List.set_cons_zero, List.set_cons_succ]; exact rfl)
                case hstep =>
                  intro vs
                  refine And.intro (fun w hw hd => ?_) ?_
                  · refine ite_yes rfl ?_
                    simp only [Gives]
                    go_simp
                    exact ⟨Below.refl _ _, rfl, fun h => by cases h⟩
                  refine And.intro (fun w hw hd => ?_) ?_
                  · have d0 := hd 0 (by decide) rfl
                    change vs 0 = _ at d0
                    refine ite_yes rfl ?_
                    simp only [Gives]
                    go_simp
                    exact ⟨Below.refl _ _, rfl, fun h => by cases h⟩
                  refine And.intro (fun w hw hd => ?_) ?_
                  · have d1 := hd 1 (by decide) rfl
                    change vs 1 = _ at d1
                    refine ite_yes (by simp [Region.wanted, yielded, d1]) ?_
                    simp only [Gives]
                    go_simp
                    exact ⟨Below.refl _ _, rfl, fun h => by cases h⟩
                  refine And.intro (fun w hw hd => ?_) ?_
                  · have d1 := hd 1 (by decide) rfl
                    change vs 1 = _ at d1
                    refine ite_yes (by simp [Region.wanted, yielded, d1]) ?_
                    simp only [Gives]
                    go_simp
                    exact ⟨Below.refl _ _, rfl, fun h => by cases h⟩
                  refine And.intro (fun w hw hd => ?_) ?_
                  · have d2 := hd 2 (by decide) rfl
                    change vs 2 = _ at d2
                    have d3 := hd 3 (by decide) rfl
                    change vs 3 = _ at d3
                    have d1 := hd 1 (by decide) rfl
                    change vs 1 = _ at d1
                    refine ite_yes (by simp [Region.wanted, yielded, d1]) ?_
                    simp only [Gives]
                    go_simp
                    exact ⟨Below.refl _ _, rfl, fun h => by cases h⟩
                  refine And.intro (fun w hw hd => ?_) ?_
                  · have d4 := hd 4 (by decide) rfl
                    change vs 4 = _ at d4
                    have d1 := hd 1 (by decide) rfl
                    change vs 1 = _ at d1
                    refine ite_yes (by simp [Region.wanted, yielded, d1]) ?_
                    have q0 : w.cell? ⟨b9, o9 + a, none⟩ = some (.int .i64 z) := by simpa using (HR1.out.kept hw).cellAt Hz.out (j := 0) rfl
                    have q1 : w.cell? ⟨b2, o2 + k, none⟩ = some (.int .i64 v) := by simpa using (HR2.out.kept hw).cellAt Hv.out (j := 0) rfl
                    simp only [Gives]
                    go_simp
                    exact ⟨Below.refl _ _, rfl, fun h => by cases h⟩
                  refine And.intro (fun w hw hd => ?_) ?_
                  · have d1 := hd 1 (by decide) rfl
                    change vs 1 = _ at d1
                    refine ite_yes (by simp [Region.wanted, yielded, d1]) ?_
                    simp only [Gives]
                    go_simp
                    exact ⟨Below.refl _ _, rfl, fun h => by cases h⟩
                  refine And.intro (fun w hw hd => ?_) ?_
                  · have d1 := hd 1 (by decide) rfl
                    change vs 1 = _ at d1
                    refine ite_yes (by simp [Region.wanted, yielded, d1]) ?_
                    simp only [Gives]
                    go_simp
                    exact ⟨Below.refl _ _, rfl, fun h => by cases h⟩
                  refine And.intro (fun w hw hd => ?_) ?_
                  · have d6 := hd 6 (by decide) rfl
                    change vs 6 = _ at d6
                    have d7 := hd 7 (by decide) rfl
                    change vs 7 = _ at d7
                    have d1 := hd 1 (by decide) rfl
                    change vs 1 = _ at d1
                    refine ite_yes (by simp [Region.wanted, yielded, d1]) ?_
                    simp only [Gives]
                    go_simp
                    exact ⟨Below.refl _ _, rfl, fun h => by cases h⟩
                  refine And.intro (fun w hw hd => ?_) ?_
                  · have d8 := hd 8 (by decide) rfl
                    change vs 8 = _ at d8
                    have d1 := hd 1 (by decide) rfl
                    change vs 1 = _ at d1
                    refine ite_yes (by simp [Region.wanted, yielded, d1]) ?_
                    have q0 : w.cell? ⟨b9, o9 + a, none⟩ = some (.int .i64 z) := by simpa using (HR1.out.kept hw).cellAt Hz.out (j := 0) rfl
                    have q1 : w.cell? ⟨b2, o2 + k, none⟩ = some (.int .i64 v) := by simpa using (HR2.out.kept hw).cellAt Hv.out (j := 0) rfl
                    simp only [Gives]
                    go_simp
                    exact ⟨Below.refl _ _, rfl, fun h => by cases h⟩
                  refine And.intro (fun w hw hd => ?_) ?_
                  · have d5 := hd 5 (by decide) rfl
                    change vs 5 = _ at d5
                    have d9 := hd 9 (by decide) rfl
                    change vs 9 = _ at d9
                    have d1 := hd 1 (by decide) rfl
                    change vs 1 = _ at d1
                    refine ite_yes (by simp [Region.wanted, yielded, d1]) ?_
                    simp only [Gives]
                    go_simp
                    exact ⟨Below.refl _ _, rfl, fun h => by cases h⟩
                  refine And.intro (fun w hw hd => ?_) ?_
                  · have d1 := hd 1 (by decide) rfl
                    change vs 1 = _ at d1
                    have d10 := hd 10 (by decide) rfl
                    change vs 10 = _ at d10
                    refine ite_yes rfl ?_
                    simp only [Gives]
                    go_simp
                    exact ⟨Below.refl _ _, rfl, fun h => by cases h⟩
                  exact trivial
                intro vs wt hw hd hne hlo
                have d0 := hd 0 (by decide)
                change vs 0 = _ at d0
                have d1 := hd 1 (by decide)
                change vs 1 = _ at d1
                have d2 := hd 2 (by decide)
                change vs 2 = _ at d2
                have d3 := hd 3 (by decide)
                change vs 3 = _ at d3
                have d4 := hd 4 (by decide)
                change vs 4 = _ at d4
                have d5 := hd 5 (by decide)
                change vs 5 = _ at d5
                have d6 := hd 6 (by decide)
                change vs 6 = _ at d6
                have d7 := hd 7 (by decide)
                change vs 7 = _ at d7
                have d8 := hd 8 (by decide)
                change vs 8 = _ at d8
                have d9 := hd 9 (by decide)
                change vs 9 = _ at d9
                have d10 := hd 10 (by decide)
                change vs 10 = _ at d10
                have d11 := hd 11 (by decide)
                change vs 11 = _ at d11
                simp only [d0, d1, d2, d3, d4, d5, d6, d7, d8, d9, d10, d11, List.drop_succ_cons, List.drop_zero]
                clear hd hne hlo d0 d1 d2 d3 d4 d5 d6 d7 d8 d9 d10 d11
                go_wp2_with fail
                exact ⟨⟨k + 1, by omega, by go_num, by rw [any_step Hv.out, Hh.out, Hyx.out]; rfl, up_later hY.out hw⟩, by simp [intOf]; omega⟩
          · obtain rfl : k = pl.length := by omega
            rw [List.take_length] at *
            have Hh := Lib.hid (show (pl.any fun y => y == z) = true from List.any_eq_true.2 ⟨z, HPQ.out z (List.mem_of_getElem? Hz.out), by simp⟩)
            rw [Hh.out]
            go_wp2_with fail
            exact ⟨⟨a + 1, by omega, by go_num, hY.out⟩, by simp [intOf]; omega⟩
      · obtain rfl : a = ql.length := by omega
        have HZ9 := hY
        have hb := hY.out
        have HB := Lib.hid (up_later HB.out hb)
        have HT := Lib.hid (HT.out.kept hb)
        have BX := Lib.hid (BX.out.kept hb)
        have XB := Lib.hid (XB.out.kept hb)
        have HC := Lib.hid (HC.out.kept hb)
        clear hb
        clear hY HP HQ
        clear HZ9
        go_wp2_with fail
        have bx := BX.out
        have xb := XB.out
        apply wp_region_by 13 [(Fact.eq _), (Fact.eq _), (Fact.eq _), (Fact.eq _), (Fact.eq _), (Fact.eq _), (Fact.eq _), (Fact.eq _), (Fact.eq _), (Fact.eq _), (Fact.eq _), (Fact.eq _), (Fact.eq _)]
        case hm => kernel_rfl
        case hB => kernel_rfl
        case hA => (intro vs; simp only [List.take_succ_cons, List.take_zero, putAll, if_true, Act.put, List.setIfInBounds_toArray, List.set_cons_zero, List.set_cons_succ]; exact rfl)
        case hstep =>
          intro vs
          refine And.intro (fun w hw hd => ?_) ?_
          · refine ite_yes rfl ?_
            simp only [Gives]
            go_simp
            exact ⟨Below.refl _ _, rfl, fun h => by cases h⟩
          refine And.intro (fun w hw hd => ?_) ?_
          · have d0 := hd 0 (by decide) rfl
            change vs 0 = _ at d0
            refine ite_yes rfl ?_
            have c_bx := fun i => (bx.kept hw).cell i
            have c_xb := fun i => (xb.kept hw).cell i
            simp only [Gives]
            go_simp
            exact ⟨Below.refl _ _, rfl, fun h => by cases h⟩
          refine And.intro (fun w hw hd => ?_) ?_
          · refine ite_yes rfl ?_
            simp only [Gives]
            go_simp
            exact ⟨Below.refl _ _, rfl, fun h => by cases h⟩
          refine And.intro (fun w hw hd => ?_) ?_
          · have d1 := hd 1 (by decide) rfl
            change vs 1 = _ at d1
            have d2 := hd 2 (by decide) rfl
            change vs 2 = _ at d2
            refine ite_yes rfl ?_
            simp only [Gives]
            go_simp
            exact ⟨Below.refl _ _, rfl, fun h => by cases h⟩
          refine And.intro (fun w hw hd => ?_) ?_
          · have d3 := hd 3 (by decide) rfl
            change vs 3 = _ at d3
            refine ite_yes rfl ?_
            simp only [Gives]
            go_simp
            exact ⟨Below.refl _ _, rfl, fun h => by cases h⟩
          refine And.intro (fun w hw hd => ?_) ?_
          · have d4 := hd 4 (by decide) rfl
            change vs 4 = _ at d4
            refine ite_yes rfl ?_
            have c_bx := fun i => (bx.kept hw).cell i
            have c_xb := fun i => (xb.kept hw).cell i
            have q0 : w.cell? ⟨ba, oa + i * 4 + 2, none⟩ = some (.int .i64 s.z) := (HT.out.kept hw).st.cellAt HS1.out (j := 2) rfl
            have q1 : w.cell? ⟨b1, i * 4 + 2, none⟩ = some (.int .i64 (s.z + (u : Int))) := own_cell (HC.out.kept hw).o1 (st_cell hset.out rfl)
            simp only [Gives]
            go_simp
            exact ⟨Below.refl _ _, rfl, fun h => by cases h⟩
          refine And.intro (fun w hw hd => ?_) ?_
          · refine ite_yes rfl ?_
            simp only [Gives]
            go_simp
            exact ⟨Below.refl _ _, rfl, fun h => by cases h⟩
          refine And.intro (fun w hw hd => ?_) ?_
          · have d6 := hd 6 (by decide) rfl
            change vs 6 = _ at d6
            refine ite_yes rfl ?_
            have c_bx := fun i => (bx.kept hw).cell i
            have c_xb := fun i => (xb.kept hw).cell i
            simp only [Gives]
            go_simp
            exact ⟨Below.refl _ _, rfl, fun h => by cases h⟩
          refine And.intro (fun w hw hd => ?_) ?_
          · refine ite_yes rfl ?_
            simp only [Gives]
            go_simp
            exact ⟨Below.refl _ _, rfl, fun h => by cases h⟩
          refine And.intro (fun w hw hd => ?_) ?_
          · have d7 := hd 7 (by decide) rfl
            change vs 7 = _ at d7
            have d8 := hd 8 (by decide) rfl
            change vs 8 = _ at d8
            refine ite_yes rfl ?_
            simp only [Gives]
            go_simp
            exact ⟨Below.refl _ _, rfl, fun h => by cases h⟩
          refine And.intro (fun w hw hd => ?_) ?_
          · have d9 := hd 9 (by decide) rfl
            change vs 9 = _ at d9
            refine ite_yes rfl ?_
            simp only [Gives]
            go_simp
            exact ⟨Below.refl _ _, rfl, fun h => by cases h⟩
          refine And.intro (fun w hw hd => ?_) ?_
          · have d10 := hd 10 (by decide) rfl
            change vs 10 = _ at d10
            refine ite_yes rfl ?_
            have c_bx := fun i => (bx.kept hw).cell i
            have c_xb := fun i => (xb.kept hw).cell i
            have q0 : w.cell? ⟨ba, oa + i * 4 + 2, none⟩ = some (.int .i64 s.z) := (HT.out.kept hw).st.cellAt HS1.out (j := 2) rfl
            have q1 : w.cell? ⟨b1, i * 4 + 2, none⟩ = some (.int .i64 (s.z + (u : Int))) := own_cell (HC.out.kept hw).o1 (st_cell hset.out rfl)
            simp only [Gives]
            go_simp
            exact ⟨Below.refl _ _, rfl, fun h => by cases h⟩
          refine And.intro (fun w hw hd => ?_) ?_
          · have d5 := hd 5 (by decide) rfl
            change vs 5 = _ at d5
            have d11 := hd 11 (by decide) rfl
            change vs 11 = _ at d11
            refine ite_yes rfl ?_
            simp only [Gives]
            go_simp
            exact ⟨Below.refl _ _, rfl, fun h => by cases h⟩
          exact trivial
        intro vs wt hw hd hne hlo
        have d0 := hd 0 (by decide)
        change vs 0 = _ at d0
        have d1 := hd 1 (by decide)
        change vs 1 = _ at d1
        have d2 := hd 2 (by decide)
        change vs 2 = _ at d2
        have d3 := hd 3 (by decide)
        change vs 3 = _ at d3
        have d4 := hd 4 (by decide)
        change vs 4 = _ at d4
        have d5 := hd 5 (by decide)
        change vs 5 = _ at d5
        have d6 := hd 6 (by decide)
        change vs 6 = _ at d6
        have d7 := hd 7 (by decide)
        change vs 7 = _ at d7
        have d8 := hd 8 (by decide)
        change vs 8 = _ at d8
        have d9 := hd 9 (by decide)
        change vs 9 = _ at d9
        have d10 := hd 10 (by decide)
        change vs 10 = _ at d10
        have d11 := hd 11 (by decide)
        change vs 11 = _ at d11
        have d12 := hd 12 (by decide)
        change vs 12 = _ at d12
        simp only [d0, d1, d2, d3, d4, d5, d6, d7, d8, d9, d10, d11, d12, List.drop_succ_cons, List.drop_zero]
        have bx := bx.kept hw
        have xb := xb.kept hw
        have c_bx := fun i => bx.cell i
        have f_bx := fun i => bx.free i
        have c_xb := fun i => xb.cell i
        have f_xb := fun i => xb.free i
        clear hd hne hlo d0 d1 d2 d3 d4 d5 d6 d7 d8 d9 d10 d11 d12
        have hb := hw
        clear bx xb c_bx f_bx c_xb f_xb hw
        have HB := Lib.hid (up_later HB.out hb)
        have HT := Lib.hid (HT.out.kept hb)
        have BX := Lib.hid (BX.out.kept hb)
        have XB := Lib.hid (XB.out.kept hb)
        have HC := Lib.hid (HC.out.kept hb)
        clear hb
        go_wp2_with fail
        refine (awake_any _).mono ?_
        rintro e y9 ⟨rfl, hb⟩
        go_wp2_with fail
        go_ret
        exact ⟨by simp [go_sem], up_later HB.out hb⟩
  · have hq := Lib.hid hq0
    have HW3 := Lib.hid hwn
    have K3 : IntKind.i64.wrap (s.z + (n : Int)) = s.z + (n : Int) := wrapK_in _ 2000 (by omega) (by omega)
    have c3 : ¬ (1000 : Int) < s.z + (n : Int) := by omega
    clear hwn hq0
    go_wp2_with fail
    go_loopw [18] (fun q wr => ∃ m : Nat, m ≤ ql.length ∧ q = .int .i64 m ∧ Hid (Below yr.heap.size yr wr)) (fun q _ => ql.length - (intOf q).toNat)
    case atStart => exact ⟨0, by omega, rfl, up0⟩
    case round =>
      obtain ⟨a, ha, rfl, hY⟩ := hrel
      have a0 : (0 : Int) ≤ (a : Int) := by omega
      by_cases hlt : a < ql.length
      · obtain ⟨z, hz⟩ : ∃ z, ql[a]? = some z := ⟨_, List.getElem?_eq_getElem hlt⟩
        have Hz := Lib.hid hz
        have a1 : (a : Int) < (ql.length : Int) := by omega
        clear hz
        go_wp2_with fail
        go_loopw [19, 20] (fun h q wi => ∃ k : Nat, k ≤ pl.length ∧ q = .int .i64 k ∧ h = .bool ((pl.take k).any fun y => y == z) ∧ Hid (Below yr.heap.size yr wi)) (fun _ q _ => pl.length - (intOf q).toNat)
        case atStart => exact ⟨0, by omega, rfl, by simp, hY.out⟩
        case round =>
          clear hY
          obtain ⟨k, hk, rfl, rfl, hY⟩ := hrel
          have k0 : (0 : Int) ≤ (k : Int) := by omega
          by_cases hkl : k < pl.length
          · obtain ⟨v, hv⟩ : ∃ v, pl[k]? = some v := ⟨_, List.getElem?_eq_getElem hkl⟩
            have Hv := Lib.hid hv
            have k1 : (k : Int) < (pl.length : Int) := by omega
            have HR1 := Lib.hid (HQ.out.kept hY.out)
            have HR2 := Lib.hid (HP.out.kept hY.out)
            obtain ⟨b2, o2, rfl, _, _⟩ := HR2.out.at rfl hv
            obtain ⟨b9, o9, rfl, _, _⟩ := HR1.out.at rfl Hz.out
            clear hv
            cases hh : (pl.take k).any fun y => y == z with
            | true =>
              have Hh := Lib.hid hh
              clear hh
              go_wp2_with fail
              apply wp_region_by 12 [(Fact.eq _), (Fact.eq _), (Fact.eq _), (Fact.eq _), (Fact.eq _), (Fact.eq _), (Fact.eq _), (Fact.eq _), (Fact.eq _), (Fact.eq _), (Fact.eq _), (Fact.eq _)]
              case hm => kernel_rfl
              case hB => kernel_rfl
              case hA => (intro vs; simp only [List.take_succ_cons, List.take_zero, putAll, if_true, Act.put, List.setIfInBounds_toArray, List.set_cons_zero, List.set_cons_succ]; exact rfl)
              case hstep =>
                intro vs
                refine And.intro (fun w hw hd => ?_) ?_
                · refine ite_yes rfl ?_
                  simp only [Gives]
                  go_simp
                  exact ⟨Below.refl _ _, rfl, fun h => by cases h⟩
                refine And.intro (fun w hw hd => ?_) ?_
                · have d0 := hd 0 (by decide) rfl
                  change vs 0 = _ at d0
                  refine ite_yes rfl ?_
                  simp only [Gives]
                  go_simp
                  exact ⟨Below.refl _ _, rfl, fun h => by cases h⟩
                refine And.intro (fun w hw hd => ?_) ?_
                · have d1 := hd 1 (by decide) rfl
                  change vs 1 = _ at d1
                  refine ite_no (by simp [Region.wanted, yielded, d1]) ?_
                  exact ⟨rfl, rfl⟩
                refine And.intro (fun w hw hd => ?_) ?_
                · have d1 := hd 1 (by decide) rfl
                  change vs 1 = _ at d1
                  refine ite_no (by simp [Region.wanted, yielded, d1]) ?_
                  exact ⟨rfl, rfl⟩
                refine And.intro (fun w hw hd => ?_) ?_
                · have d2 := hd 2 (by decide) rfl
                  change vs 2 = _ at d2
                  have d3 := hd 3 (by decide) rfl
                  change vs 3 = _ at d3
                  have d1 := hd 1 (by decide) rfl
                  change vs 1 = _ at d1
                  refine ite_no (by simp [Region.wanted, yielded, d1]) ?_
                  exact ⟨rfl, rfl⟩
                refine And.intro (fun w hw hd => ?_) ?_
                · have d4 := hd 4 (by decide) rfl
                  change vs 4 = _ at d4
                  have d1 := hd 1 (by decide) rfl
                  change vs 1 = _ at d1
                  refine ite_no (by simp [Region.wanted, yielded, d1]) ?_
                  exact ⟨rfl, rfl⟩
                refine And.intro (fun w hw hd => ?_) ?_
                · have d1 := hd 1 (by decide) rfl
                  change vs 1 = _ at d1
                  refine ite_no (by simp [Region.wanted, yielded, d1]) ?_
                  exact ⟨rfl, rfl⟩
                refine And.intro (fun w hw hd => ?_) ?_
                · have d1 := hd 1 (by decide) rfl
                  change vs 1 = _ at d1
                  refine ite_no (by simp [Region.wanted, yielded, d1]) ?_
                  exact ⟨rfl, rfl⟩
                refine And.intro (fun w hw hd => ?_) ?_
                · have d6 := hd 6 (by decide) rfl
                  change vs 6 = _ at d6
                  have d7 := hd 7 (by decide) rfl
                  change vs 7 = _ at d7
                  have d1 := hd 1 (by decide) rfl
                  change vs 1 = _ at d1
                  refine ite_no (by simp [Region.wanted, yielded, d1]) ?_
                  exact ⟨rfl, rfl⟩
                refine And.intro (fun w hw hd => ?_) ?_
                · have d8 := hd 8 (by decide) rfl
                  change vs 8 = _ at d8
                  have d1 := hd 1 (by decide) rfl
                  change vs 1 = _ at d1
                  refine ite_no (by simp [Region.wanted, yielded, d1]) ?_
                  exact ⟨rfl, rfl⟩
                refine And.intro (fun w hw hd => ?_) ?_
                · have d5 := hd 5 (by decide) rfl
                  change vs 5 = _ at d5
                  have d9 := hd 9 (by decide) rfl
                  change vs 9 = _ at d9
                  have d1 := hd 1 (by decide) rfl
                  change vs 1 = _ at d1
                  refine ite_no (by simp [Region.wanted, yielded, d1]) ?_
                  exact ⟨rfl, rfl⟩
                refine And.intro (fun w hw hd => ?_) ?_
                · have d1 := hd 1 (by decide) rfl
                  change vs 1 = _ at d1
                  have d10 := hd 10 (by decide) rfl
                  change vs 10 = _ at d10
                  refine ite_yes rfl ?_
                  simp only [Gives]
                  go_simp
                  exact ⟨Below.refl _ _, rfl, fun h => by cases h⟩
                exact trivial
              intro vs wt hw hd hne hlo
              have d0 := hd 0 (by decide)
              change vs 0 = _ at d0
              have d1 := hd 1 (by decide)
              change vs 1 = _ at d1
              have d2 := hd 2 (by decide)
              change vs 2 = _ at d2
              have d3 := hd 3 (by decide)
              change vs 3 = _ at d3
              have d4 := hd 4 (by decide)
              change vs 4 = _ at d4
              have d5 := hd 5 (by decide)
              change vs 5 = _ at d5
              have d6 := hd 6 (by decide)
              change vs 6 = _ at d6
              have d7 := hd 7 (by decide)
              change vs 7 = _ at d7
              have d8 := hd 8 (by decide)
              change vs 8 = _ at d8
              have d9 := hd 9 (by decide)
              change vs 9 = _ at d9
              have d10 := hd 10 (by decide)
              change vs 10 = _ at d10
              have d11 := hd 11 (by decide)
              change vs 11 = _ at d11
              simp only [d0, d1, d2, d3, d4, d5, d6, d7, d8, d9, d10, d11, List.drop_succ_cons, List.drop_zero]
              clear hd hne hlo d0 d1 d2 d3 d4 d5 d6 d7 d8 d9 d10 d11
              go_wp2_with fail
              exact ⟨⟨k + 1, by omega, by go_num, by rw [any_step Hv.out, Hh.out]; rfl, up_later hY.out hw⟩, by simp [intOf]; omega⟩
            | false =>
              have Hh := Lib.hid hh
              clear hh
              cases hyx : (v == z) with
              | true =>
                have Hyx := Lib.hid hyx
                go_wp2_with fail
                apply wp_region_by 12 [(Fact.eq _), (Fact.eq _), (Fact.eq _), (Fact.eq _), (Fact.eq _), (Fact.eq _), (Fact.eq _), (Fact.eq _), (Fact.eq _), (Fact.eq _), (Fact.eq _), (Fact.eq _)]
                case hm => kernel_rfl
                case hB => kernel_rfl
                case hA => (intro vs; simp only [List.take_succ_cons, List.take_zero, putAll, if_true, Act.put, List.setIfInBounds_toArray, List.set_cons_zero, List.set_cons_succ]; exact rfl)
                case hstep =>
                  intro vs
                  refine And.intro (fun w hw hd => ?_) ?_
                  · refine ite_yes rfl ?_
                    simp only [Gives]
                    go_simp
                    exact ⟨Below.refl _ _, rfl, fun h => by cases h⟩
                  refine And.intro (fun w hw hd => ?_) ?_
                  · have d0 := hd 0 (by decide) rfl
                    change vs 0 = _ at d0
                    refine ite_yes rfl ?_
                    simp only [Gives]
                    go_simp
                    exact ⟨Below.refl _ _, rfl, fun h => by cases h⟩
                  refine And.intro (fun w hw hd => ?_) ?_
                  · have d1 := hd 1 (by decide) rfl
                    change vs 1 = _ at d1
                    refine ite_yes (by simp [Region.wanted, yielded, d1]) ?_
                    simp only [Gives]
                    go_simp
                    exact ⟨Below.refl _ _, rfl, fun h => by cases h⟩
                  refine And.intro (fun w hw hd => ?_) ?_
                  · have d1 := hd 1 (by decide) rfl
                    change vs 1 = _ at d1
                    refine ite_yes (by simp [Region.wanted, yielded, d1]) ?_
                    simp only [Gives]
                    go_simp
                    exact ⟨Below.refl _ _, rfl, fun h => by cases h⟩
                  refine And.intro (fun w hw hd => ?_) ?_
                  · have d2 := hd 2 (by decide) rfl
                    change vs 2 = _ at d2
                    have d3 := hd 3 (by decide) rfl
                    change vs 3 = _ at d3
                    have d1 := hd 1 (by decide) rfl
                    change vs 1 = _ at d1
                    refine ite_yes (by simp [Region.wanted, yielded, d1]) ?_
                    simp only [Gives]
                    go_simp
                    exact ⟨Below.refl _ _, rfl, fun h => by cases h⟩
                  refine And.intro (fun w hw hd => ?_) ?_
                  · have d4 := hd 4 (by decide) rfl
                    change vs 4 = _ at d4
                    have d1 := hd 1 (by decide) rfl
                    change vs 1 = _ at d1
                    refine ite_yes (by simp [Region.wanted, yielded, d1]) ?_
                    have q0 : w.cell? ⟨b9, o9 + a, none⟩ = some (.int .i64 z) := by simpa using (HR1.out.kept hw).cellAt Hz.out (j := 0) rfl
                    have q1 : w.cell? ⟨b2, o2 + k, none⟩ = some (.int .i64 v) := by simpa using (HR2.out.kept hw).cellAt Hv.out (j := 0) rfl
                    simp only [Gives]
                    go_simp
                    exact ⟨Below.refl _ _, rfl, fun h => by cases h⟩
                  refine And.intro (fun w hw hd => ?_) ?_
                  · have d1 := hd 1 (by decide) rfl
                    change vs 1 = _ at d1
                    refine ite_yes (by simp [Region.wanted, yielded, d1]) ?_
                    simp only [Gives]
                    go_simp
                    exact ⟨Below.refl _ _, rfl, fun h => by cases h⟩
                  refine And.intro (fun w hw hd => ?_) ?_
                  · have d1 := hd 1 (by decide) rfl
                    change vs 1 = _ at d1
                    refine ite_yes (by simp [Region.wanted, yielded, d1]) ?_
                    simp only [Gives]
                    go_simp
                    exact ⟨Below.refl _ _, rfl, fun h => by cases h⟩
                  refine And.intro (fun w hw hd => ?_) ?_
                  · have d6 := hd 6 (by decide) rfl
                    change vs 6 = _ at d6
                    have d7 := hd 7 (by decide) rfl
                    change vs 7 = _ at d7
                    have d1 := hd 1 (by decide) rfl
                    change vs 1 = _ at d1
                    refine ite_yes (by simp [Region.wanted, yielded, d1]) ?_
                    simp only [Gives]
                    go_simp
                    exact ⟨Below.refl _ _, rfl, fun h => by cases h⟩
                  refine And.intro (fun w hw hd => ?_) ?_
                  · have d8 := hd 8 (by decide) rfl
                    change vs 8 = _ at d8
                    have d1 := hd 1 (by decide) rfl
                    change vs 1 = _ at d1
                    refine ite_yes (by simp [Region.wanted, yielded, d1]) ?_
                    have q0 : w.cell? ⟨b9, o9 + a, none⟩ = some (.int .i64 z) := by simpa using (HR1.out.kept hw).cellAt Hz.out (j := 0) rfl
                    have q1 : w.cell? ⟨b2, o2 + k, none⟩ = some (.int .i64 v) := by simpa using (HR2.out.kept hw).cellAt Hv.out (j := 0) rfl
                    simp only [Gives]
                    go_simp
                    exact ⟨Below.refl _ _, rfl, fun h => by cases h⟩
                  refine And.intro (fun w hw hd => ?_) ?_
                  · have d5 := hd 5 (by decide) rfl
                    change vs 5 = _ at d5
                    have d9 := hd 9 (by decide) rfl
                    change vs 9 = _ at d9
                    have d1 := hd 1 (by decide) rfl
                    change vs 1 = _ at d1
                    refine ite_yes (by simp [Region.wanted, yielded, d1]) ?_
                    simp only [Gives]
                    go_simp
                    exact ⟨Below.refl _ _, rfl, fun h => by cases h⟩
                  refine And.intro (fun w hw hd => ?_) ?_
                  · have d1 := hd 1 (by decide) rfl
                    change vs 1 = _ at d1
                    have d10 := hd 10 (by decide) rfl
                    change vs 10 = _ at d10
                    refine ite_yes rfl ?_
                    simp only [Gives]
                    go_simp
                    exact ⟨Below.refl _ _, rfl, fun h => by cases h⟩
                  exact trivial
                intro vs wt hw hd hne hlo
                have d0 := hd 0 (by decide)
                change vs 0 = _ at d0
                have d1 := hd 1 (by decide)
                change vs 1 = _ at d1
                have d2 := hd 2 (by decide)
                change vs 2 = _ at d2
                have d3 := hd 3 (by decide)
                change vs 3 = _ at d3
                have d4 := hd 4 (by decide)
                change vs 4 = _ at d4
                have d5 := hd 5 (by decide)
                change vs 5 = _ at d5
                have d6 := hd 6 (by decide)
                change vs 6 = _ at d6
                have d7 := hd 7 (by decide)
                change vs 7 = _ at d7
                have d8 := hd 8 (by decide)
                change vs 8 = _ at d8
                have d9 := hd 9 (by decide)
                change vs 9 = _ at d9
                have d10 := hd 10 (by decide)
                change vs 10 = _ at d10
                have d11 := hd 11 (by decide)
                change vs 11 = _ at d11
                simp only [d0, d1, d2, d3, d4, d5, d6, d7, d8, d9, d10, d11, List.drop_succ_cons, List.drop_zero]
                clear hd hne hlo d0 d1 d2 d3 d4 d5 d6 d7 d8 d9 d10 d11
                go_wp2_with fail
                exact ⟨⟨k + 1, by omega, by go_num, by rw [any_step Hv.out, Hh.out, Hyx.out]; rfl, up_later hY.out hw⟩, by simp [intOf]; omega⟩
              | false =>
                have Hyx := Lib.hid hyx
                go_wp2_with fail
                apply wp_region_by 12 [(Fact.eq _), (Fact.eq _), (Fact.eq _), (Fact.eq _), (Fact.eq _), (Fact.eq _), (Fact.eq _), (Fact.eq _), (Fact.eq _), (Fact.eq _), (Fact.eq _), (Fact.eq _)]
                case hm => kernel_rfl
                case hB => kernel_rfl
                case hA => (intro vs; simp only [List.take_succ_cons, List.take_zero, putAll, if_true, Act.put, List.setIfInBounds_toArray, List.set_cons_zero, List.set_cons_succ]; exact rfl)
                case hstep =>
                  intro vs
                  refine And.intro (fun w hw hd => ?_) ?_
                  · refine ite_yes rfl ?_
                    simp only [Gives]
                    go_simp
                    exact ⟨Below.refl _ _, rfl, fun h => by cases h⟩
                  refine And.intro (fun w hw hd => ?_) ?_
                  · have d0 := hd 0 (by decide) rfl
                    change vs 0 = _ at d0
                    refine ite_yes rfl ?_
                    simp only [Gives]
                    go_simp
                    exact ⟨Below.refl _ _, rfl, fun h => by cases h⟩
                  refine And.intro (fun w hw hd => ?_) ?_
                  · have d1 := hd 1 (by decide) rfl
                    change vs 1 = _ at d1
                    refine ite_yes (by simp [Region.wanted, yielded, d1]) ?_
                    simp only [Gives]
                    go_simp
                    exact ⟨Below.refl _ _, rfl, fun h => by cases h⟩
                  refine And.intro (fun w hw hd => ?_) ?_
                  · have d1 := hd 1 (by decide) rfl
                    change vs 1 = _ at d1
                    refine ite_yes (by simp [Region.wanted, yielded, d1]) ?_
                    simp only [Gives]
                    go_simp
                    exact ⟨Below.refl _ _, rfl, fun h => by cases h⟩
                  refine And.intro (fun w hw hd => ?_) ?_
                  · have d2 := hd 2 (by decide) rfl
                    change vs 2 = _ at d2
                    have d3 := hd 3 (by decide) rfl
                    change vs 3 = _ at d3
                    have d1 := hd 1 (by decide) rfl
                    change vs 1 = _ at d1
                    refine ite_yes (by simp [Region.wanted, yielded, d1]) ?_
                    simp only [Gives]
                    go_simp
                    exact ⟨Below.refl _ _, rfl, fun h => by cases h⟩
                  refine And.intro (fun w hw hd => ?_) ?_
                  · have d4 := hd 4 (by decide) rfl
                    change vs 4 = _ at d4
                    have d1 := hd 1 (by decide) rfl
                    change vs 1 = _ at d1
                    refine ite_yes (by simp [Region.wanted, yielded, d1]) ?_
                    have q0 : w.cell? ⟨b9, o9 + a, none⟩ = some (.int .i64 z) := by simpa using (HR1.out.kept hw).cellAt Hz.out (j := 0) rfl
                    have q1 : w.cell? ⟨b2, o2 + k, none⟩ = some (.int .i64 v) := by simpa using (HR2.out.kept hw).cellAt Hv.out (j := 0) rfl
                    simp only [Gives]
                    go_simp
                    exact ⟨Below.refl _ _, rfl, fun h => by cases h⟩
                  refine And.intro (fun w hw hd => ?_) ?_
                  · have d1 := hd 1 (by decide) rfl
                    change vs 1 = _ at d1
                    refine ite_yes (by simp [Region.wanted, yielded, d1]) ?_
                    simp only [Gives]
                    go_simp
                    exact ⟨Below.refl _ _, rfl, fun h => by cases h⟩
                  refine And.intro (fun w hw hd => ?_) ?_
                  · have d1 := hd 1 (by decide) rfl
                    change vs 1 = _ at d1
                    refine ite_yes (by simp [Region.wanted, yielded, d1]) ?_
                    simp only [Gives]
                    go_simp
                    exact ⟨Below.refl _ _, rfl, fun h => by cases h⟩
                  refine And.intro (fun w hw hd => ?_) ?_
                  · have d6 := hd 6 (by decide) rfl
                    change vs 6 = _ at d6
                    have d7 := hd 7 (by decide) rfl
                    change vs 7 = _ at d7
                    have d1 := hd 1 (by decide) rfl
                    change vs 1 = _ at d1
                    refine ite_yes (by simp [Region.wanted, yielded, d1]) ?_
                    simp only [Gives]
                    go_simp
                    exact ⟨Below.refl _ _, rfl, fun h => by cases h⟩
                  refine And.intro (fun w hw hd => ?_) ?_
                  · have d8 := hd 8 (by decide) rfl
                    change vs 8 = _ at d8
                    have d1 := hd 1 (by decide) rfl
                    change vs 1 = _ at d1
                    refine ite_yes (by simp [Region.wanted, yielded, d1]) ?_
                    have q0 : w.cell? ⟨b9, o9 + a, none⟩ = some (.int .i64 z) := by simpa using (HR1.out.kept hw).cellAt Hz.out (j := 0) rfl
                    have q1 : w.cell? ⟨b2, o2 + k, none⟩ = some (.int .i64 v) := by simpa using (HR2.out.kept hw).cellAt Hv.out (j := 0) rfl
                    simp only [Gives]
                    go_simp
                    exact ⟨Below.refl _ _, rfl, fun h => by cases h⟩
                  refine And.intro (fun w hw hd => ?_) ?_
                  · have d5 := hd 5 (by decide) rfl
                    change vs 5 = _ at d5
                    have d9 := hd 9 (by decide) rfl
                    change vs 9 = _ at d9
                    have d1 := hd 1 (by decide) rfl
                    change vs 1 = _ at d1
                    refine ite_yes (by simp [Region.wanted, yielded, d1]) ?_
                    simp only [Gives]
                    go_simp
                    exact ⟨Below.refl _ _, rfl, fun h => by cases h⟩
                  refine And.intro (fun w hw hd => ?_) ?_
                  · have d1 := hd 1 (by decide) rfl
                    change vs 1 = _ at d1
                    have d10 := hd 10 (by decide) rfl
                    change vs 10 = _ at d10
                    refine ite_yes rfl ?_
                    simp only [Gives]
                    go_simp
                    exact ⟨Below.refl _ _, rfl, fun h => by cases h⟩
                  exact trivial
                intro vs wt hw hd hne hlo
                have d0 := hd 0 (by decide)
                change vs 0 = _ at d0
                have d1 := hd 1 (by decide)
                change vs 1 = _ at d1
                have d2 := hd 2 (by decide)
                change vs 2 = _ at d2
                have d3 := hd 3 (by decide)
                change vs 3 = _ at d3
                have d4 := hd 4 (by decide)
                change vs 4 = _ at d4
                have d5 := hd 5 (by decide)
                change vs 5 = _ at d5
                have d6 := hd 6 (by decide)
                change vs 6 = _ at d6
                have d7 := hd 7 (by decide)
                change vs 7 = _ at d7
                have d8 := hd 8 (by decide)
                change vs 8 = _ at d8
                have d9 := hd 9 (by decide)
                change vs 9 = _ at d9
                have d10 := hd 10 (by decide)
                change vs 10 = _ at d10
                have d11 := hd 11 (by decide)
                change vs 11 = _ at d11
                simp only [d0, d1, d2, d3, d4, d5, d6, d7, d8, d9, d10, d11, List.drop_succ_cons, List.drop_zero]
                clear hd hne hlo d0 d1 d2 d3 d4 d5 d6 d7 d8 d9 d10 d11
                go_wp2_with fail
                exact ⟨⟨k + 1, by omega, by go_num, by rw [any_step Hv.out, Hh.out, Hyx.out]; rfl, up_later hY.out hw⟩, by simp [intOf]; omega⟩
          · obtain rfl : k = pl.length := by omega
            rw [List.take_length] at *
            have Hh := Lib.hid (show (pl.any fun y => y == z) = true from List.any_eq_true.2 ⟨z, HPQ.out z (List.mem_of_getElem? Hz.out), by simp⟩)
            rw [Hh.out]
            go_wp2_with fail
            exact ⟨⟨a + 1, by omega, by go_num, hY.out⟩, by simp [intOf]; omega⟩
      · obtain rfl : a = ql.length := by omega
        have HZ9 := hY
        have hb := hY.out
        have HB := Lib.hid (up_later HB.out hb)
        have HT := Lib.hid (HT.out.kept hb)
        have BX := Lib.hid (BX.out.kept hb)
        have XB := Lib.hid (XB.out.kept hb)
        have HC := Lib.hid (HC.out.kept hb)
        clear hb
        clear hY HP HQ
        clear HZ9
        go_wp2_with fail
        have bx := BX.out
        have xb := XB.out
        apply wp_region_by 13 [(Fact.eq _), (Fact.eq _), (Fact.eq _), (Fact.eq _), (Fact.eq _), (Fact.eq _), (Fact.eq _), (Fact.eq _), (Fact.eq _), (Fact.eq _), (Fact.eq _), (Fact.eq _), (Fact.eq _)]
        case hm => kernel_rfl
        case hB => kernel_rfl
        case hA => (intro vs; simp only [List.take_succ_cons, List.take_zero, putAll, if_true, Act.put, List.setIfInBounds_toArray, List.set_cons_zero, List.set_cons_succ]; exact rfl)
        case hstep =>
          intro vs
          refine And.intro (fun w hw hd => ?_) ?_
          · refine ite_yes rfl ?_
            simp only [Gives]
            go_simp
            exact ⟨Below.refl _ _, rfl, fun h => by cases h⟩
          refine And.intro (fun w hw hd => ?_) ?_
          · have d0 := hd 0 (by decide) rfl
            change vs 0 = _ at d0
            refine ite_yes rfl ?_
            have c_bx := fun i => (bx.kept hw).cell i
            have c_xb := fun i => (xb.kept hw).cell i
            simp only [Gives]
            go_simp
            exact ⟨Below.refl _ _, rfl, fun h => by cases h⟩
          refine And.intro (fun w hw hd => ?_) ?_
          · refine ite_yes rfl ?_
            simp only [Gives]
            go_simp
            exact ⟨Below.refl _ _, rfl, fun h => by cases h⟩
          refine And.intro (fun w hw hd => ?_) ?_
          · have d1 := hd 1 (by decide) rfl
            change vs 1 = _ at d1
            have d2 := hd 2 (by decide) rfl
            change vs 2 = _ at d2
            refine ite_yes rfl ?_
            simp only [Gives]
            go_simp
            exact ⟨Below.refl _ _, rfl, fun h => by cases h⟩
          refine And.intro (fun w hw hd => ?_) ?_
          · have d3 := hd 3 (by decide) rfl
            change vs 3 = _ at d3
            refine ite_yes rfl ?_
            simp only [Gives]
            go_simp
            exact ⟨Below.refl _ _, rfl, fun h => by cases h⟩
          refine And.intro (fun w hw hd => ?_) ?_
          · have d4 := hd 4 (by decide) rfl
            change vs 4 = _ at d4
            refine ite_yes rfl ?_
            have c_bx := fun i => (bx.kept hw).cell i
            have c_xb := fun i => (xb.kept hw).cell i
            have q0 : w.cell? ⟨ba, oa + i * 4 + 2, none⟩ = some (.int .i64 s.z) := (HT.out.kept hw).st.cellAt HS1.out (j := 2) rfl
            have q1 : w.cell? ⟨b1, i * 4 + 2, none⟩ = some (.int .i64 (s.z + (u : Int))) := own_cell (HC.out.kept hw).o1 (st_cell hset.out rfl)
            simp only [Gives]
            go_simp
            exact ⟨Below.refl _ _, rfl, fun h => by cases h⟩
          refine And.intro (fun w hw hd => ?_) ?_
          · refine ite_yes rfl ?_
            simp only [Gives]
            go_simp
            exact ⟨Below.refl _ _, rfl, fun h => by cases h⟩
          refine And.intro (fun w hw hd => ?_) ?_
          · have d6 := hd 6 (by decide) rfl
            change vs 6 = _ at d6
            refine ite_yes rfl ?_
            have c_bx := fun i => (bx.kept hw).cell i
            have c_xb := fun i => (xb.kept hw).cell i
            simp only [Gives]
            go_simp
            exact ⟨Below.refl _ _, rfl, fun h => by cases h⟩
          refine And.intro (fun w hw hd => ?_) ?_
          · refine ite_yes rfl ?_
            simp only [Gives]
            go_simp
            exact ⟨Below.refl _ _, rfl, fun h => by cases h⟩
          refine And.intro (fun w hw hd => ?_) ?_
          · have d7 := hd 7 (by decide) rfl
            change vs 7 = _ at d7
            have d8 := hd 8 (by decide) rfl
            change vs 8 = _ at d8
            refine ite_yes rfl ?_
            simp only [Gives]
            go_simp
            exact ⟨Below.refl _ _, rfl, fun h => by cases h⟩
          refine And.intro (fun w hw hd => ?_) ?_
          · have d9 := hd 9 (by decide) rfl
            change vs 9 = _ at d9
            refine ite_yes rfl ?_
            simp only [Gives]
            go_simp
            exact ⟨Below.refl _ _, rfl, fun h => by cases h⟩
          refine And.intro (fun w hw hd => ?_) ?_
          · have d10 := hd 10 (by decide) rfl
            change vs 10 = _ at d10
            refine ite_yes rfl ?_
            have c_bx := fun i => (bx.kept hw).cell i
            have c_xb := fun i => (xb.kept hw).cell i
            have q0 : w.cell? ⟨ba, oa + i * 4 + 2, none⟩ = some (.int .i64 s.z) := (HT.out.kept hw).st.cellAt HS1.out (j := 2) rfl
            have q1 : w.cell? ⟨b1, i * 4 + 2, none⟩ = some (.int .i64 (s.z + (u : Int))) := own_cell (HC.out.kept hw).o1 (st_cell hset.out rfl)
            simp only [Gives]
            go_simp
            exact ⟨Below.refl _ _, rfl, fun h => by cases h⟩
          refine And.intro (fun w hw hd => ?_) ?_
          · have d5 := hd 5 (by decide) rfl
            change vs 5 = _ at d5
            have d11 := hd 11 (by decide) rfl
            change vs 11 = _ at d11
            refine ite_yes rfl ?_
            simp only [Gives]
            go_simp
            exact ⟨Below.refl _ _, rfl, fun h => by cases h⟩
          exact trivial
        intro vs wt hw hd hne hlo
        have d0 := hd 0 (by decide)
        change vs 0 = _ at d0
        have d1 := hd 1 (by decide)
        change vs 1 = _ at d1
        have d2 := hd 2 (by decide)
        change vs 2 = _ at d2
        have d3 := hd 3 (by decide)
        change vs 3 = _ at d3
        have d4 := hd 4 (by decide)
        change vs 4 = _ at d4
        have d5 := hd 5 (by decide)
        change vs 5 = _ at d5
        have d6 := hd 6 (by decide)
        change vs 6 = _ at d6
        have d7 := hd 7 (by decide)
        change vs 7 = _ at d7
        have d8 := hd 8 (by decide)
        change vs 8 = _ at d8
        have d9 := hd 9 (by decide)
        change vs 9 = _ at d9
        have d10 := hd 10 (by decide)
        change vs 10 = _ at d10
        have d11 := hd 11 (by decide)
        change vs 11 = _ at d11
        have d12 := hd 12 (by decide)
        change vs 12 = _ at d12
        simp only [d0, d1, d2, d3, d4, d5, d6, d7, d8, d9, d10, d11, d12, List.drop_succ_cons, List.drop_zero]
        have bx := bx.kept hw
        have xb := xb.kept hw
        have c_bx := fun i => bx.cell i
        have f_bx := fun i => bx.free i
        have c_xb := fun i => xb.cell i
        have f_xb := fun i => xb.free i
        clear hd hne hlo d0 d1 d2 d3 d4 d5 d6 d7 d8 d9 d10 d11 d12
        have hb := hw
        clear bx xb c_bx f_bx c_xb f_xb hw
        have HB := Lib.hid (up_later HB.out hb)
        have HT := Lib.hid (HT.out.kept hb)
        have BX := Lib.hid (BX.out.kept hb)
        have XB := Lib.hid (XB.out.kept hb)
        have HC := Lib.hid (HC.out.kept hb)
        clear hb
        by_cases hun : (u : Int) < (n : Int)
        · have c2 : (0 : Int) < (ql.length : Int) := by
            have := List.length_pos_iff.2 (hq.out.1 hun)
            omega
          have bx := BX.out
          have cB := fun i => bx.cell i
          have q0 : wt.cell? ⟨ba, oa + i * 4 + 2, none⟩ = some (.int .i64 s.z) := HT.out.st.cellAt HS1.out (j := 2) rfl
          go_wp2_with fail
          clear cB q0
          have XB := XB.out
          apply wp_region_by 13 [(Fact.eq _), (Fact.eq _), (Fact.eq _), (Fact.eq _), (Fact.eq _), (Fact.eq _), (Fact.eq _), (Fact.eq _), (Fact.eq _), (Fact.eq _), (Fact.eq _), (Fact.eq _), (Fact.eq _)]
          case hm => kernel_rfl
          case hB => kernel_rfl
          case hA => (intro vs; simp only [List.take_succ_cons, List.take_zero, putAll, if_true, Act.put, List.setIfInBounds_toArray, List.set_cons_zero, List.set_cons_succ]; exact rfl)
          case hstep =>
            intro vs
            refine And.intro (fun w hw hd => ?_) ?_
            · refine ite_yes rfl ?_
              simp only [Gives]
              go_simp
              exact ⟨Below.refl _ _, rfl, fun h => by cases h⟩
            refine And.intro (fun w hw hd => ?_) ?_
            · have d0 := hd 0 (by decide) rfl
              change vs 0 = _ at d0
              refine ite_yes rfl ?_
              have c_bx := fun i => (bx.kept hw).cell i
              have c_XB := fun i => (XB.kept hw).cell i
              simp only [Gives]
              go_simp
              exact ⟨Below.refl _ _, rfl, fun h => by cases h⟩
            refine And.intro (fun w hw hd => ?_) ?_
            · refine ite_yes rfl ?_
              simp only [Gives]
              go_simp
              exact ⟨Below.refl _ _, rfl, fun h => by cases h⟩
            refine And.intro (fun w hw hd => ?_) ?_
            · refine ite_yes rfl ?_
              simp only [Gives]
              go_simp
              exact ⟨Below.refl _ _, rfl, fun h => by cases h⟩
            refine And.intro (fun w hw hd => ?_) ?_
            · have d3 := hd 3 (by decide) rfl
              change vs 3 = _ at d3
              refine ite_yes rfl ?_
              have c_bx := fun i => (bx.kept hw).cell i
              have c_XB := fun i => (XB.kept hw).cell i
              simp only [Gives]
              go_simp
              exact ⟨Below.refl _ _, rfl, fun h => by cases h⟩
            refine And.intro (fun w hw hd => ?_) ?_
            · refine ite_yes rfl ?_
              simp only [Gives]
              go_simp
              exact ⟨Below.refl _ _, rfl, fun h => by cases h⟩
            refine And.intro (fun w hw hd => ?_) ?_
            · have d4 := hd 4 (by decide) rfl
              change vs 4 = _ at d4
              have d5 := hd 5 (by decide) rfl
              change vs 5 = _ at d5
              refine ite_yes rfl ?_
              simp only [Gives]
              go_simp
              exact ⟨Below.refl _ _, rfl, fun h => by cases h⟩
            refine And.intro (fun w hw hd => ?_) ?_
            · have d6 := hd 6 (by decide) rfl
              change vs 6 = _ at d6
              refine ite_yes rfl ?_
              simp only [Gives]
              go_simp
              exact ⟨Below.refl _ _, rfl, fun h => by cases h⟩
            refine And.intro (fun w hw hd => ?_) ?_
            · have d7 := hd 7 (by decide) rfl
              change vs 7 = _ at d7
              refine ite_yes rfl ?_
              have c_bx := fun i => (bx.kept hw).cell i
              have c_XB := fun i => (XB.kept hw).cell i
              have q0 : w.cell? ⟨ba, oa + i * 4 + 2, none⟩ = some (.int .i64 s.z) := (HT.out.kept hw).st.cellAt HS1.out (j := 2) rfl
              simp only [Gives]
              go_simp
              exact ⟨Below.refl _ _, rfl, fun h => by cases h⟩
            refine And.intro (fun w hw hd => ?_) ?_
            · refine ite_yes rfl ?_
              simp only [Gives]
              go_simp
              exact ⟨Below.refl _ _, rfl, fun h => by cases h⟩
            refine And.intro (fun w hw hd => ?_) ?_
            · have d8 := hd 8 (by decide) rfl
              change vs 8 = _ at d8
              have d9 := hd 9 (by decide) rfl
              change vs 9 = _ at d9
              refine ite_yes rfl ?_
              simp only [Gives]
              go_simp
              exact ⟨Below.refl _ _, rfl, fun h => by cases h⟩
            refine And.intro (fun w hw hd => ?_) ?_
            · have d1 := hd 1 (by decide) rfl
              change vs 1 = _ at d1
              have d2 := hd 2 (by decide) rfl
              change vs 2 = _ at d2
              refine ite_yes rfl ?_
              simp only [Gives]
              go_simp
              exact ⟨Below.refl _ _, rfl, fun h => by cases h⟩
            refine And.intro (fun w hw hd => ?_) ?_
            · have d11 := hd 11 (by decide) rfl
              change vs 11 = _ at d11
              refine ite_yes rfl ?_
              simp only [Gives]
              go_simp
              exact ⟨Below.refl _ _, rfl, fun h => by cases h⟩
            exact trivial
          intro vs wt hw hd hne hlo
          have d0 := hd 0 (by decide)
          change vs 0 = _ at d0
          have d1 := hd 1 (by decide)
          change vs 1 = _ at d1
          have d2 := hd 2 (by decide)
          change vs 2 = _ at d2
          have d3 := hd 3 (by decide)
          change vs 3 = _ at d3
          have d4 := hd 4 (by decide)
          change vs 4 = _ at d4
          have d5 := hd 5 (by decide)
          change vs 5 = _ at d5
          have d6 := hd 6 (by decide)
          change vs 6 = _ at d6
          have d7 := hd 7 (by decide)
          change vs 7 = _ at d7
          have d8 := hd 8 (by decide)
          change vs 8 = _ at d8
          have d9 := hd 9 (by decide)
          change vs 9 = _ at d9
          have d10 := hd 10 (by decide)
          change vs 10 = _ at d10
          have d11 := hd 11 (by decide)
          change vs 11 = _ at d11
          have d12 := hd 12 (by decide)
          change vs 12 = _ at d12
          simp only [d0, d1, d2, d3, d4, d5, d6, d7, d8, d9, d10, d11, d12, List.drop_succ_cons, List.drop_zero]
          have bx := bx.kept hw
          have XB := XB.kept hw
          have c_bx := fun i => bx.cell i
          have f_bx := fun i => bx.free i
          have c_XB := fun i => XB.cell i
          have f_XB := fun i => XB.free i
          clear hd hne hlo d0 d1 d2 d3 d4 d5 d6 d7 d8 d9 d10 d11 d12
          have HCt := Lib.hid (HC.out.kept hw)
          have q2 : wt.cell? ⟨b1, i * 4 + 2, none⟩ = some (.int .i64 (s.z + (u : Int))) := own_cell HCt.out.o1 (st_cell hset.out rfl)
          have f2 : wt.frozen? ⟨b1, i * 4 + 2, none⟩ = false := own_free HCt.out.o1
          have XB2 := XB.far (p := ⟨b1, i * 4 + 2, none⟩) (by simp; omega) (.int .i64 (s.z + (n : Int)))
          have cX := fun i => XB2.cell i
          go_wp2_with fail
          have HX := Lib.hid (show Cop 74 79 80 60 82 _ (setSt L i (lift s n)) _ (.slice (some ⟨b1, 0, none⟩) L.st.length p1) (.slice F2 m2 p2) (.slice F3 m3 p3) (.slice F4 m4 p4) cx from by
            have h := (HCt.out.putSt (j := 2) (s' := lift s n) (u := .int .i64 (s.z + (n : Int))) hset.out (by omega) rfl (by decide) (by decide) (by decide) (by decide)).2
            simpa [setSt, List.set_set] using h)
          have HB := Lib.hid (up_put (up_later HB.out hw) (p := ⟨b1, i * 4 + 2, none⟩) (by simp; omega) (.int .i64 (s.z + (n : Int))))
          have hsl3 : (setSt L i (lift s n)).st.length = L.st.length := by simp [setSt]
          clear cX q2 f2 hw c_bx f_bx c_XB f_XB bx
          refine (Land_any _ _ _ _ (setSt L i (lift s n)) cx _ (HX.out.land (by rw [hsl3]; omega) (by show L.rg.length ≤ 1000; omega) (by show L.cs.length ≤ 1000; omega) (by show L.sn.length ≤ 1000; omega) Hall.out)).mono ?_
          rintro e ya ⟨a1, a2, a3, a4, ca, rfl, hl, hb⟩
          have Hl := Lib.hid hl
          clear hl HX
          have HB := Lib.hid (up_later HB.out hb)
          clear hb
          go_wp2_with fail
          have AA := Walls_any _ _ _ _ (setSt L i (lift s n)) _ i j 0 0 ya Hl.out
          rw [HW3.out] at AA
          refine AA.mono ?_
          rintro e yb ⟨r1, r2, rfl, hp, hq, hb⟩
          obtain ⟨_, Ap, pp, rfl, _, _⟩ := hp.form
          obtain ⟨_, Aq, pq, rfl, _, _⟩ := hq.form
          clear AA Hl hp hq
          have HB := Lib.hid (up_later HB.out hb)
          clear hb
          go_wp2_with fail
          refine (awake_any _).mono ?_
          rintro e y9 ⟨rfl, hb⟩
          go_wp2_with fail
          go_ret
          exact ⟨by simp [go_sem], up_later HB.out hb⟩
        · have c2 : ql = [] := Classical.byContradiction fun h => hun (hq.out.2 h)
          have bx := BX.out
          have cB := fun i => bx.cell i
          have q0 : wt.cell? ⟨ba, oa + i * 4 + 2, none⟩ = some (.int .i64 s.z) := HT.out.st.cellAt HS1.out (j := 2) rfl
          go_wp2_with fail
          clear cB q0
          have XB := XB.out
          apply wp_region_by 13 [(Fact.eq _), (Fact.eq _), (Fact.eq _), (Fact.eq _), (Fact.eq _), (Fact.eq _), (Fact.eq _), (Fact.eq _), (Fact.eq _), (Fact.eq _), (Fact.eq _), (Fact.eq _), (Fact.eq _)]
          case hm => kernel_rfl
          case hB => kernel_rfl
          case hA => (intro vs; simp only [List.take_succ_cons, List.take_zero, putAll, if_true, Act.put, List.setIfInBounds_toArray, List.set_cons_zero, List.set_cons_succ]; exact rfl)
          case hstep =>
            intro vs
            refine And.intro (fun w hw hd => ?_) ?_
            · refine ite_yes rfl ?_
              simp only [Gives]
              go_simp
              exact ⟨Below.refl _ _, rfl, fun h => by cases h⟩
            refine And.intro (fun w hw hd => ?_) ?_
            · have d0 := hd 0 (by decide) rfl
              change vs 0 = _ at d0
              refine ite_yes rfl ?_
              have c_bx := fun i => (bx.kept hw).cell i
              have c_XB := fun i => (XB.kept hw).cell i
              simp only [Gives]
              go_simp
              exact ⟨Below.refl _ _, rfl, fun h => by cases h⟩
            refine And.intro (fun w hw hd => ?_) ?_
            · refine ite_yes rfl ?_
              simp only [Gives]
              go_simp
              exact ⟨Below.refl _ _, rfl, fun h => by cases h⟩
            refine And.intro (fun w hw hd => ?_) ?_
            · refine ite_yes rfl ?_
              simp only [Gives]
              go_simp
              exact ⟨Below.refl _ _, rfl, fun h => by cases h⟩
            refine And.intro (fun w hw hd => ?_) ?_
            · have d3 := hd 3 (by decide) rfl
              change vs 3 = _ at d3
              refine ite_yes rfl ?_
              have c_bx := fun i => (bx.kept hw).cell i
              have c_XB := fun i => (XB.kept hw).cell i
              simp only [Gives]
              go_simp
              exact ⟨Below.refl _ _, rfl, fun h => by cases h⟩
            refine And.intro (fun w hw hd => ?_) ?_
            · refine ite_yes rfl ?_
              simp only [Gives]
              go_simp
              exact ⟨Below.refl _ _, rfl, fun h => by cases h⟩
            refine And.intro (fun w hw hd => ?_) ?_
            · have d4 := hd 4 (by decide) rfl
              change vs 4 = _ at d4
              have d5 := hd 5 (by decide) rfl
              change vs 5 = _ at d5
              refine ite_yes rfl ?_
              simp only [Gives]
              go_simp
              exact ⟨Below.refl _ _, rfl, fun h => by cases h⟩
            refine And.intro (fun w hw hd => ?_) ?_
            · have d6 := hd 6 (by decide) rfl
              change vs 6 = _ at d6
              refine ite_yes rfl ?_
              simp only [Gives]
              go_simp
              exact ⟨Below.refl _ _, rfl, fun h => by cases h⟩
            refine And.intro (fun w hw hd => ?_) ?_
            · have d7 := hd 7 (by decide) rfl
              change vs 7 = _ at d7
              refine ite_yes rfl ?_
              have c_bx := fun i => (bx.kept hw).cell i
              have c_XB := fun i => (XB.kept hw).cell i
              have q0 : w.cell? ⟨ba, oa + i * 4 + 2, none⟩ = some (.int .i64 s.z) := (HT.out.kept hw).st.cellAt HS1.out (j := 2) rfl
              simp only [Gives]
              go_simp
              exact ⟨Below.refl _ _, rfl, fun h => by cases h⟩
            refine And.intro (fun w hw hd => ?_) ?_
            · refine ite_yes rfl ?_
              simp only [Gives]
              go_simp
              exact ⟨Below.refl _ _, rfl, fun h => by cases h⟩
            refine And.intro (fun w hw hd => ?_) ?_
            · have d8 := hd 8 (by decide) rfl
              change vs 8 = _ at d8
              have d9 := hd 9 (by decide) rfl
              change vs 9 = _ at d9
              refine ite_yes rfl ?_
              simp only [Gives]
              go_simp
              exact ⟨Below.refl _ _, rfl, fun h => by cases h⟩
            refine And.intro (fun w hw hd => ?_) ?_
            · have d1 := hd 1 (by decide) rfl
              change vs 1 = _ at d1
              have d2 := hd 2 (by decide) rfl
              change vs 2 = _ at d2
              refine ite_yes rfl ?_
              simp only [Gives]
              go_simp
              exact ⟨Below.refl _ _, rfl, fun h => by cases h⟩
            refine And.intro (fun w hw hd => ?_) ?_
            · have d11 := hd 11 (by decide) rfl
              change vs 11 = _ at d11
              refine ite_yes rfl ?_
              simp only [Gives]
              go_simp
              exact ⟨Below.refl _ _, rfl, fun h => by cases h⟩
            exact trivial
          intro vs wt hw hd hne hlo
          have d0 := hd 0 (by decide)
          change vs 0 = _ at d0
          have d1 := hd 1 (by decide)
          change vs 1 = _ at d1
          have d2 := hd 2 (by decide)
          change vs 2 = _ at d2
          have d3 := hd 3 (by decide)
          change vs 3 = _ at d3
          have d4 := hd 4 (by decide)
          change vs 4 = _ at d4
          have d5 := hd 5 (by decide)
          change vs 5 = _ at d5
          have d6 := hd 6 (by decide)
          change vs 6 = _ at d6
          have d7 := hd 7 (by decide)
          change vs 7 = _ at d7
          have d8 := hd 8 (by decide)
          change vs 8 = _ at d8
          have d9 := hd 9 (by decide)
          change vs 9 = _ at d9
          have d10 := hd 10 (by decide)
          change vs 10 = _ at d10
          have d11 := hd 11 (by decide)
          change vs 11 = _ at d11
          have d12 := hd 12 (by decide)
          change vs 12 = _ at d12
          simp only [d0, d1, d2, d3, d4, d5, d6, d7, d8, d9, d10, d11, d12, List.drop_succ_cons, List.drop_zero]
          have bx := bx.kept hw
          have XB := XB.kept hw
          have c_bx := fun i => bx.cell i
          have f_bx := fun i => bx.free i
          have c_XB := fun i => XB.cell i
          have f_XB := fun i => XB.free i
          clear hd hne hlo d0 d1 d2 d3 d4 d5 d6 d7 d8 d9 d10 d11 d12
          have HCt := Lib.hid (HC.out.kept hw)
          have q2 : wt.cell? ⟨b1, i * 4 + 2, none⟩ = some (.int .i64 (s.z + (u : Int))) := own_cell HCt.out.o1 (st_cell hset.out rfl)
          have f2 : wt.frozen? ⟨b1, i * 4 + 2, none⟩ = false := own_free HCt.out.o1
          have XB2 := XB.far (p := ⟨b1, i * 4 + 2, none⟩) (by simp; omega) (.int .i64 (s.z + (n : Int)))
          have cX := fun i => XB2.cell i
          go_wp2_with fail
          have HX := Lib.hid (show Cop 74 79 80 60 82 _ (setSt L i (lift s n)) _ (.slice (some ⟨b1, 0, none⟩) L.st.length p1) (.slice F2 m2 p2) (.slice F3 m3 p3) (.slice F4 m4 p4) cx from by
            have h := (HCt.out.putSt (j := 2) (s' := lift s n) (u := .int .i64 (s.z + (n : Int))) hset.out (by omega) rfl (by decide) (by decide) (by decide) (by decide)).2
            simpa [setSt, List.set_set] using h)
          have HB := Lib.hid (up_put (up_later HB.out hw) (p := ⟨b1, i * 4 + 2, none⟩) (by simp; omega) (.int .i64 (s.z + (n : Int))))
          have hsl3 : (setSt L i (lift s n)).st.length = L.st.length := by simp [setSt]
          clear cX q2 f2 hw c_bx f_bx c_XB f_XB bx
          refine (Land_any _ _ _ _ (setSt L i (lift s n)) cx _ (HX.out.land (by rw [hsl3]; omega) (by show L.rg.length ≤ 1000; omega) (by show L.cs.length ≤ 1000; omega) (by show L.sn.length ≤ 1000; omega) Hall.out)).mono ?_
          rintro e ya ⟨a1, a2, a3, a4, ca, rfl, hl, hb⟩
          have Hl := Lib.hid hl
          clear hl HX
          have HB := Lib.hid (up_later HB.out hb)
          clear hb
          go_wp2_with fail
          have AA := Walls_any _ _ _ _ (setSt L i (lift s n)) _ i j 0 0 ya Hl.out
          rw [HW3.out] at AA
          refine AA.mono ?_
          rintro e yb ⟨r1, r2, rfl, hp, hq, hb⟩
          obtain ⟨_, Ap, pp, rfl, _, _⟩ := hp.form
          obtain ⟨_, Aq, pq, rfl, _, _⟩ := hq.form
          clear AA Hl hp hq
          have HB := Lib.hid (up_later HB.out hb)
          clear hb
          go_wp2_with fail
          refine (awake_any _).mono ?_
          rintro e y9 ⟨rfl, hb⟩
          go_wp2_with fail
          go_ret
          exact ⟨by simp [go_sem], up_later HB.out hb⟩

end Go.Proofs.Ytojbdmdjepgpjaa

namespace Go.Proofs.Ytojbdmdjepgpjaa
open Go.ChangeShapes Go.WideShapes Go.ChangeAt Go.RowKit

set_option maxRecDepth 100000 in
theorem hillHigher_lifted (os : Os) (started : os.Started) (H : Type) (enc : TypeId × Value → H) :
    ReturnsInHanded {} Try.checked os 9 .any (Rows.hillHigherSpec.pre6 enc Try.prog Try.f9 Rows.hillHigherRow.domain false) (Rows.hillHigherSpec.post enc Try.prog Try.f9 false true false false) := by
  refine returnsInHanded_of_change (C := Try.checked) own_knob started (by kernel_rfl) Try.func9
    (ChangeSpec.witness6 (enc := enc) (C := Try.checked) false ⟨#[], #[.agg #[.slice Option.none 0 0, .slice Option.none 0 0, .slice Option.none 0 0, .slice Option.none 0 0], .int .u8 0, .int .u16 0], []⟩ 8 (by kernel_rfl) (by kernel_rfl) (by kernel_rfl) (by kernel_rfl)) ?_
  intro W base args ds gs before hval0 hW hcnd _
  have hval : ∀ (j : Nat) t v, Try.f9.params[j]? = some t → args[j]? = some v → Value.okWide Try.prog W .any base t v := hval0
  have hW' := hW
  obtain ⟨p, q, hA0, hV, rfl, hfz, hnd⟩ := hW
  have hA : DataW.TrodAll enc Try.prog W 0 (fun _ => true) true Try.f9.params.toList args.toList ds p := hA0
  rw [Try.params9] at hA hval
  have hlt : ∀ x ∈ p, x.block < W.heap.size := fun x hx => hW'.lt x (List.mem_append_left _ hx)
  have hAk := hA
  obtain ⟨v0, vs0, d0, ds0, p0, q0, hargs, rfl, rfl, h0, r0⟩ := trodAll_cons hA
  obtain ⟨v1, vs1, d1, ds1, p1, q1, rfl, rfl, rfl, h1, r1⟩ := trodAll_cons r0
  obtain ⟨v2, vs2, d2, ds2, p2, q2, rfl, rfl, rfl, h2, r2⟩ := trodAll_cons r1
  obtain ⟨rfl, rfl, rfl⟩ := trodAll_nil r2
  obtain rfl : args = #[v0, v1, v2] := by cases args; simp_all
  obtain ⟨rfl, rfl⟩ := trodVars_none hV
  obtain ⟨a1, rfl, rfl, rfl, w1⟩ := open_int Try.underlying5 (hval 1 5 v1 rfl rfl) h1
  obtain ⟨a2, rfl, rfl, rfl, w2⟩ := open_int Try.underlying76 (hval 2 76 v2 rfl rfl) h2
  obtain ⟨cs, rfl, _⟩ := okWide_struct und27 (hval 0 27 v0 rfl rfl)
  obtain ⟨fuel, h0⟩ := h0
  obtain ⟨u1, u2, u3, u4, L, c, hcs, hL⟩ := open_land h0
  obtain rfl : cs = #[u1, u2, u3, u4] := by
    have h : cs.toList = [u1, u2, u3, u4] := hcs
    cases cs
    simp at h
    rw [h]
  clear hA0 hval0 hval hA
  simp only [List.append_nil] at hW'
  simp only [List.append_nil] at hAk hlt
  refine (higher_law u1 u2 u3 u4 L c a1 a2 W hL (bounds_u8 w1) (bounds_u16 w2)).mono fun e W' ⟨he, hg⟩ => ?_
  subst he
  refine ⟨_, rfl, post_below (pv := []) hW' hg (fun _ _ _ => (trodAll_cons_mk (shut_bool Try.underlying4 _) trodAll_mk0)) (fun sp hsp => ?_) (fun _ _ => rfl) (List.append_nil _).symm
    (ok_one (by kernel_rfl) rfl (okWide_bool_mk Try.underlying4 _))⟩
  rw [Try.params9]
  refine args_stay laid_out hg (fun t ht => ?_) hAk hlt sp (fun x hx => hsp x (by first | exact hx | simpa using hx))
  simp only [List.mem_cons, List.not_mem_nil, or_false] at ht
  rcases ht with rfl | rfl | rfl
  · exact rec27
  · exact rec5
  · exact rec76

theorem hillHigher_over : Rows.hillHigherRow.holds Try.pinned (OpenSpec.ofChange Rows.hillHigherSpec) :=
  OpenClaim.holds_of_wide 9 Try.f9 rfl rfl rfl rfl rfl rfl rfl ⟨rfl, rfl, rfl, rfl, rfl⟩ rfl rfl rfl rfl rfl (by kernel_rfl) Try.func9 (by kernel_rfl)
    (of_decide_eq_true (by kernel_rfl)) (by unfold Func.isWrapper; first | (rw [if_pos (by decide +kernel)]; kernel_rfl) | (rw [if_neg (by decide +kernel)]; exact ⟨rfl, rfl⟩))
    (fun os started H enc _ => hillHigher_lifted os started H enc)

theorem HillHigher_holds : Rows.HillHigherSaid := hillHigher_over

end Go.Proofs.Ytojbdmdjepgpjaa
