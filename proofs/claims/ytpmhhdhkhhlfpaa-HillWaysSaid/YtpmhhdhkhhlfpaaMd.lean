/-
  HillWays holds: the same walls block both ways; with the sun up a station or the other one needs one mirror only; the reason is what walls, sun and mirrors say. No condition.
-/
import Derived.Test.YtpmhhdhkhhlfpaaMc
import Derived.Test.YtpmhhdhkhhlfpaaMb
import Derived.Test.YtpmhhdhkhhlfpaaHe
import Derived.Test.YtpmhhdhkhhlfpaaAo
namespace Go.Proofs.Ytpmhhdhkhhlfpaa
open Go.RowKit

set_option maxRecDepth 100000 in
set_option maxHeartbeats 1000000 in
theorem Lfault_any (v1 v2 v3 v4 : Value) (L : Ld) (c : List (Value × List Cl)) (w : World) (hL : LandAt w v1 v2 v3 v4 L c) :
    Calls Try.prog 21 #[.agg #[v1, v2, v3, v4]] w fun e w' => e = .returned (.int .i64 (errI L)) ∧ Below w.heap.size w w' := by
  have Hc := Lib.hid (fun o => Fault_any v1 v2 v3 v4 L c _ (hL.kept (up_alloc up0 o)))
  obtain ⟨hn1, A1, cap1, rfl, _, _⟩ := hL.st.form
  obtain ⟨hn2, A2, cap2, rfl, _, _⟩ := hL.rg.form
  obtain ⟨hn3, A3, cap3, rfl, _, _⟩ := hL.cs.form
  obtain ⟨hn4, A4, cap4, rfl, _, _⟩ := hL.sn.form
  clear hL
  go_enter Try.func21, Try.ntmps21
  go_wp2_with fail
  refine (Hc.out _).mono ?_
  rintro e w1 ⟨rfl, hb⟩
  go_wp2_with fail
  go_ret
  exact ⟨rfl, up_later (up_alloc up0 _) hb⟩

def readyB (L : Ld) : Bool := thinB L && errI L == 0 && decide (1 < L.st.length)

set_option maxRecDepth 100000 in
set_option maxHeartbeats 1000000 in
theorem Lready_any (v1 v2 v3 v4 : Value) (L : Ld) (c : List (Value × List Cl)) (w : World) (hL : LandAny w v1 v2 v3 v4 L c) :
    Calls Try.prog 37 #[.agg #[v1, v2, v3, v4]] w fun e w' => e = .returned (.bool (readyB L)) ∧ Below w.heap.size w w' := by
  have HL := Lib.hid hL
  obtain ⟨A1, cap1, rfl, _, _⟩ := hL.st.form
  obtain ⟨A2, cap2, rfl, _, _⟩ := hL.rg.form
  obtain ⟨A3, cap3, rfl, _, _⟩ := hL.cs.form
  obtain ⟨A4, cap4, rfl, _, _⟩ := hL.sn.form
  clear hL
  have B1 := Box.new (w := w) (t := 27) (cs := #[.slice A1 L.st.length cap1, .slice A2 L.rg.length cap2, .slice A3 c.length cap3, .slice A4 L.sn.length cap4]) rfl
  cases hth : thinB L with
  | false =>
    have hr : readyB L = false := by simp [readyB, hth]
    have Hr := Lib.hid hr
    have Hth := Lib.hid hth
    clear hr hth
    go_enter Try.func37, Try.ntmps37
    go_wp2_with fail
    refine (Thin_any _ _ _ _ L c _ (HL.out.kept (up_alloc up0 _))).mono ?_
    rintro e w1 ⟨rfl, hb⟩
    rw [Hth.out]
    go_wp2_with fail
    go_ret
    exact ⟨by rw [Hr.out]; rfl, up_later (up_alloc up0 _) hb⟩
  | true =>
    have hT := HL.out.thin hth
    have HT := Lib.hid hT
    have Hth := Lib.hid hth
    clear hT hth
    by_cases he : errI L = 0
    · have He := Lib.hid he
      clear he
      by_cases h1 : 1 < L.st.length
      · have hr : readyB L = true := by simp [readyB, Hth.out, He.out, h1]
        have n1 : (1 : Int) < (L.st.length : Int) := by omega
        have Hr := Lib.hid hr
        clear hr
        go_enter Try.func37, Try.ntmps37
        go_wp2_with fail
        refine (Thin_any _ _ _ _ L c _ (HL.out.kept (up_alloc up0 _))).mono ?_
        rintro e w1 ⟨rfl, hb⟩
        rw [Hth.out]
        have B2 := B1.kept hb
        have c2 := fun i => B2.cell i
        go_wp2_with fail
        refine (Lfault_any _ _ _ _ L c _ ((HT.out.kept (up_alloc up0 _)).kept hb)).mono ?_
        rintro e w2 ⟨rfl, hb2⟩
        rw [He.out]
        have B3 := B2.kept hb2
        have c3 := fun i => B3.cell i
        go_wp2_with fail
        go_ret
        exact ⟨by rw [Hr.out]; rfl, up_later (up_later (up_alloc up0 _) hb) hb2⟩
      · have hr : readyB L = false := by simp [readyB, h1]
        have n1 : ¬ (1 : Int) < (L.st.length : Int) := by omega
        have Hr := Lib.hid hr
        clear hr
        go_enter Try.func37, Try.ntmps37
        go_wp2_with fail
        refine (Thin_any _ _ _ _ L c _ (HL.out.kept (up_alloc up0 _))).mono ?_
        rintro e w1 ⟨rfl, hb⟩
        rw [Hth.out]
        have B2 := B1.kept hb
        have c2 := fun i => B2.cell i
        go_wp2_with fail
        refine (Lfault_any _ _ _ _ L c _ ((HT.out.kept (up_alloc up0 _)).kept hb)).mono ?_
        rintro e w2 ⟨rfl, hb2⟩
        rw [He.out]
        have B3 := B2.kept hb2
        have c3 := fun i => B3.cell i
        go_wp2_with fail
        go_ret
        exact ⟨by rw [Hr.out]; show Ending.returned (.bool (decide ((1 : Int) < (L.st.length : Int)))) = _; rw [decide_eq_false (by omega)], up_later (up_later (up_alloc up0 _) hb) hb2⟩
    · have hr : readyB L = false := by simp [readyB, he]
      have hne : (errI L == 0) = false := by rw [beq_eq_false_iff_ne]; exact he
      have Hr := Lib.hid hr
      clear hr he
      go_enter Try.func37, Try.ntmps37
      go_wp2_with fail
      refine (Thin_any _ _ _ _ L c _ (HL.out.kept (up_alloc up0 _))).mono ?_
      rintro e w1 ⟨rfl, hb⟩
      rw [Hth.out]
      have B2 := B1.kept hb
      have c2 := fun i => B2.cell i
      go_wp2_with fail
      refine (Lfault_any _ _ _ _ L c _ ((HT.out.kept (up_alloc up0 _)).kept hb)).mono ?_
      rintro e w2 ⟨rfl, hb2⟩
      go_wp2_with fail
      go_ret
      exact ⟨by rw [Hr.out]; rfl, up_later (up_later (up_alloc up0 _) hb) hb2⟩

/-- Two different stations, chosen by a number. -/
def pairI (n x : Int) : Int × Int := (x % n, (x % n + 1 + x / 8 % (n - 1)) % n)

set_option maxRecDepth 100000 in
set_option maxHeartbeats 1000000 in
theorem Lpair_any (A1 : Option Addr) (n cap1 : Nat) (v2 v3 v4 : Value) (x : Int) (w : World) (hn : 1 < n) (hn2 : n ≤ 1000) (hx : 0 ≤ x ∧ x ≤ 255) :
    Calls Try.prog 38 #[.agg #[.slice A1 n cap1, v2, v3, v4], .int .u8 x] w fun e w' => e = .returned (.tuple #[.int .i64 (pairI n x).1, .int .i64 (pairI n x).2]) ∧ Below w.heap.size w w' := by
  obtain ⟨hx0, hx1⟩ := hx
  have n0 : ¬ (n : Int) = 0 := by omega
  have n1 : ¬ (n : Int) - 1 = 0 := by omega
  have z0 : ((n : Int) == 0) = false := by rw [beq_eq_false_iff_ne]; omega
  have z1 : ((n : Int) - 1 == 0) = false := by rw [beq_eq_false_iff_ne]; omega
  have m0 : 0 ≤ x % (n : Int) := Int.emod_nonneg _ (by omega)
  have m1 : x % (n : Int) < n := Int.emod_lt_of_pos _ (by omega)
  have r0 : 0 ≤ x / 8 % ((n : Int) - 1) := Int.emod_nonneg _ (by omega)
  have r1 : x / 8 % ((n : Int) - 1) < n - 1 := Int.emod_lt_of_pos _ (by omega)
  have s0 : 0 ≤ x / 8 := by omega
  go_enter Try.func38, Try.ntmps38
  go_wp2_with fail
  go_region
  all_goals go_wp2_with fail
  all_goals go_ret2
  all_goals exact ⟨rfl, up_drew (up_alloc up0 _)⟩

end Go.Proofs.Ytpmhhdhkhhlfpaa

namespace Go.Proofs.Ytpmhhdhkhhlfpaa
open Go.RowKit

theorem open_zero {L : Ld} {i j k h : Nat} (he : errI L = 0) (hi : i < L.st.length) (hj : j < L.st.length) (hk : k < L.cs.length) (hh : h < L.sn.length) (hij : i ≠ j) : openI L k h [(i : Int), (j : Int)] = 0 := by
  have h1 : inB 0 ((L.cs.length : Int) - 1) k = true := inB_iff.2 (by omega)
  have h2 : inB 0 ((L.sn.length : Int) - 1) h = true := inB_iff.2 (by omega)
  have h3 : ([(i : Int), (j : Int)].all (inB 0 ((L.st.length : Int) - 1))) = true := by
    have a1 : inB 0 ((L.st.length : Int) - 1) i = true := inB_iff.2 (by omega)
    have a2 : inB 0 ((L.st.length : Int) - 1) j = true := inB_iff.2 (by omega)
    simp [a1, a2]
  have h4 : ((i : Int) == (j : Int)) = false := by rw [beq_eq_false_iff_ne]; omega
  unfold openI
  rw [if_neg (by simp [he]), h1, h2, h3]
  simp only [Bool.not_true, Bool.or_self, Bool.false_eq_true, if_false, h4]
theorem cloudsI_back (L : Ld) (a b k h : Int) : cloudsI L b a k h = cloudsI L a b k h := by
  unfold cloudsI
  congr 1
  funext c
  unfold cloudB
  rw [blocksW_back]
theorem behind_once (e n ax ay bx b_y : Int) (h : behindI e n ax ay bx b_y = true) : behindI e n bx b_y ax ay = false := by
  unfold behindI at h ⊢
  rw [decide_eq_true_eq] at h
  rw [decide_eq_false_iff_not]
  have e1 : e * (ax - bx) = -(e * (bx - ax)) := by rw [← Int.mul_neg, Int.neg_sub]
  have e2 : n * (ay - b_y) = -(n * (b_y - ay)) := by rw [← Int.mul_neg, Int.neg_sub]
  rw [e1, e2]
  omega

end Go.Proofs.Ytpmhhdhkhhlfpaa

namespace Go.Proofs.Ytpmhhdhkhhlfpaa
open Go.RowKit

theorem mod_ne {n x : Int} (hn : 1 < n) : (x % n + 1 + x / 8 % (n - 1)) % n ≠ x % n := by
  have m0 : 0 ≤ x % n := Int.emod_nonneg _ (by omega)
  have m1 : x % n < n := Int.emod_lt_of_pos _ (by omega)
  have r0 : 0 ≤ x / 8 % (n - 1) := Int.emod_nonneg _ (by omega)
  have r1 : x / 8 % (n - 1) < n - 1 := Int.emod_lt_of_pos _ (by omega)
  generalize x % n = a at *
  generalize x / 8 % (n - 1) = r at *
  by_cases h : a + 1 + r < n
  · rw [Int.emod_eq_of_lt (by omega) h]
    omega
  · have e : (a + 1 + r) % n = (a + 1 + r - n) % n := by
      have := Int.add_mul_emod_self_left (a + 1 + r - n) n 1
      rw [Int.mul_one, Int.sub_add_cancel] at this
      exact this
    rw [e, Int.emod_eq_of_lt (by omega) (by omega)]
    omega
theorem nat_mod {x : Int} {n : Nat} (hn : 0 < n) : ∃ k : Nat, x % (n : Int) = k ∧ k < n := by
  have m0 : 0 ≤ x % (n : Int) := Int.emod_nonneg _ (by omega)
  have m1 : x % (n : Int) < n := Int.emod_lt_of_pos _ (by omega)
  exact ⟨(x % (n : Int)).toNat, by omega, by omega⟩

set_option maxRecDepth 100000 in
set_option maxHeartbeats 3000000 in
theorem ways_any (v1 v2 v3 v4 : Value) (L : Ld) (c : List (Value × List Cl)) (x y z : Int) (w : World) (hL : LandAny w v1 v2 v3 v4 L c) (hx : 0 ≤ x ∧ x ≤ 255) (hy : 0 ≤ y ∧ y ≤ 255) (hz : 0 ≤ z ∧ z ≤ 255) :
    Calls Try.prog 8 #[.agg #[v1, v2, v3, v4], .int .u8 x, .int .u8 y, .int .u8 z] w fun e w' => e = .returned (.bool true) ∧ Below w.heap.size w w' := by
  have HA := Lib.hid hL
  obtain ⟨A1, cap1, rfl, _, _⟩ := hL.st.form
  obtain ⟨A2, cap2, rfl, _, _⟩ := hL.rg.form
  obtain ⟨A3, cap3, rfl, _, _⟩ := hL.cs.form
  obtain ⟨A4, cap4, rfl, _, _⟩ := hL.sn.form
  have Hcl := Lib.hid (show c.length = L.cs.length by rw [← hL.eq]; simp)
  obtain ⟨hy0, hy1⟩ := hy
  obtain ⟨hz0, hz1⟩ := hz
  clear hL
  cases hr : readyB L with
  | false =>
    have Hr := Lib.hid hr
    clear hr
    go_enter Try.func8, Try.ntmps8
    go_wp2_with fail
    refine (Lready_any _ _ _ _ L c _ (HA.out.kept (up_alloc up0 _))).mono ?_
    rintro e y0 ⟨rfl, hb⟩
    rw [Hr.out]
    go_wp2_with fail
    refine (awake_any _).mono ?_
    rintro e y1 ⟨rfl, hb2⟩
    go_wp2_with fail
    go_ret
    exact ⟨rfl, up_later (up_later (up_alloc up0 _) hb) hb2⟩
  | true =>
    have hq := hr
    simp only [readyB, Bool.and_eq_true, beq_iff_eq, decide_eq_true_eq] at hq
    obtain ⟨⟨hth, he⟩, h1n⟩ := hq
    have hT := HA.out.thin hth
    have hok := land_ok he
    obtain ⟨_, hl6, _, hc0, hc4, hs0, hs12⟩ := hok.len
    have hcl := Hcl.out
    obtain ⟨i, hi, hin⟩ := nat_mod (x := x) (n := L.st.length) (by omega)
    obtain ⟨j, hj, hjn⟩ := nat_mod (x := x % (L.st.length : Int) + 1 + x / 8 % ((L.st.length : Int) - 1)) (n := L.st.length) (by omega)
    obtain ⟨k, hk, hkn⟩ := nat_mod (x := y) (n := c.length) (by omega)
    obtain ⟨t, ht, htn⟩ := nat_mod (x := z) (n := L.sn.length) (by omega)
    have hij : i ≠ j := by
      have h := mod_ne (n := (L.st.length : Int)) (x := x) (by omega)
      rw [hi] at h hj
      rw [hj] at h
      omega
    have hkc : k < L.cs.length := by omega
    have o1 := open_zero (h := t) he hin hjn hkc htn hij
    have o2 := open_zero (h := t) he hjn hin hkc htn (Ne.symm hij)
    have o3 := open_zero (k := 0) (h := t) he hin hjn (by omega) htn hij
    have o4 := open_zero (k := 0) (h := t) he hjn hin (by omega) htn (Ne.symm hij)
    have HW1 := Lib.hid (show wallsE L i j k t = (ridgesI L i j, cloudsI L i j k t, 0) by unfold wallsE; rw [if_neg (by simp [o1])])
    have HW2 := Lib.hid (show wallsE L j i k t = (ridgesI L i j, cloudsI L i j k t, 0) by unfold wallsE; rw [if_neg (by simp [o2]), ridgesI_back, cloudsI_back])
    have hm1 : mirI L i j t = if (snAt L t).u ≤ 0 then (0, 7) else if behindL L i j t then (2, 0) else (1, 0) := by unfold mirI; rw [if_neg (by simpa using o3)]
    have hm2 : mirI L j i t = if (snAt L t).u ≤ 0 then (0, 7) else if behindL L j i t then (2, 0) else (1, 0) := by unfold mirI; rw [if_neg (by simpa using o4)]
    have hye : whyE L i j k t = ((whyI L i j k t).1, (whyI L i j k t).2, 0) := by unfold whyE; rw [if_neg (by simp [o1])]
    have Hr := Lib.hid hr
    have HT0 := Lib.hid hT
    have Hok := Lib.hid hok
    have Hpi := Lib.hid (show (pairI (L.st.length : Int) x).1 = i from hi)
    have Hpj := Lib.hid (show (pairI (L.st.length : Int) x).2 = j from hj)
    have Hk := Lib.hid hk
    have Ht := Lib.hid ht
    have hn1 : L.st.length ≤ 1000 := by omega
    obtain ⟨sn, hsn⟩ : ∃ s, L.sn[t]? = some s := ⟨_, List.getElem?_eq_getElem htn⟩
    have hu : (snAt L t).u = sn.u := by simp [snAt, hsn]
    obtain ⟨s1, hs1⟩ : ∃ s, L.st[i]? = some s := ⟨_, List.getElem?_eq_getElem hin⟩
    have hsm : (stAt L i).m = s1.m := by simp [stAt, hs1]
    have hmm := (hok.st s1 (List.mem_of_getElem? hs1)).2
    have HS1 := Lib.hid hs1
    obtain ⟨b4, f4, rfl, _, _⟩ := hT.sn.at rfl hsn
    obtain ⟨b1, o1', rfl, _, _⟩ := hT.st.at rfl hs1
    have i0 : (0 : Int) ≤ (i : Int) := by omega
    have i1 : (i : Int) < (L.st.length : Int) := by omega
    have Hsn := Lib.hid hsn
    have cz : ¬ (c.length : Int) = 0 := by omega
    have cz' : ((c.length : Int) == 0) = false := by rw [beq_eq_false_iff_ne]; omega
    have sz : ¬ (L.sn.length : Int) = 0 := by omega
    have sz' : ((L.sn.length : Int) == 0) = false := by rw [beq_eq_false_iff_ne]; omega
    have t0 : (0 : Int) ≤ (t : Int) := by omega
    have t1 : (t : Int) < (L.sn.length : Int) := by omega
    clear hr hT hok hi hj hk ht o1 o2 o3 o4 hth he hsn hcl hs1
    by_cases hup : sn.u ≤ 0
    · have HM1 := Lib.hid (show mirI L i j t = (0, 7) by rw [hm1, hu, if_pos hup])
      have HM2 := Lib.hid (show mirI L j i t = (0, 7) by rw [hm2, hu, if_pos hup])
      have HY := Lib.hid (show whyE L i j k t = (1, 0, 0) by rw [hye]; unfold whyI; rw [hu, if_pos hup])
      clear hm1 hm2 hye hu hsm
      go_enter Try.func8, Try.ntmps8
      go_wp2_with fail
      have BX := Lib.hid (Box.new (w := w) (t := 27) (cs := #[.slice (some ⟨b1, o1', none⟩) L.st.length cap1, .slice A2 L.rg.length cap2, .slice A3 c.length cap3, .slice (some ⟨b4, f4, none⟩) L.sn.length cap4]) rfl)
      have HB := Lib.hid (up_alloc (up0 (w := w)) (.cells #[.slice (some ⟨b1, o1', none⟩) L.st.length cap1, .slice A2 L.rg.length cap2, .slice A3 c.length cap3, .slice (some ⟨b4, f4, none⟩) L.sn.length cap4] 27))
      have HT := Lib.hid (HT0.out.kept HB.out)
      refine (Lready_any _ _ _ _ L c _ (HA.out.kept HB.out)).mono ?_
      rintro e y0 ⟨rfl, hb⟩
      rw [Hr.out]
      have HB := Lib.hid (up_later HB.out hb)
      have HT := Lib.hid (HT.out.kept hb)
      have BX := Lib.hid (BX.out.kept hb)
      clear hb
      have BB := BX.out
      have cB := fun i => BB.cell i
      go_wp2_with fail
      clear cB BB
      refine (Lpair_any _ L.st.length cap1 _ _ _ x _ h1n hn1 hx).mono ?_
      rintro e y1 ⟨rfl, hb⟩
      rw [Hpi.out, Hpj.out]
      have HB := Lib.hid (up_later HB.out hb)
      have HT := Lib.hid (HT.out.kept hb)
      have BX := Lib.hid (BX.out.kept hb)
      clear hb
      have BB := BX.out
      have cB := fun i => BB.cell i
      have hk := Hk.out
      have ht := Ht.out
      go_wp2_with fail
      go_region
      clear cB BB hk ht
      rw [Hk.out, Ht.out]
      have hb := up_drew (up0 (w := y1))
      have HB := Lib.hid (up_later HB.out hb)
      have HT := Lib.hid (HT.out.kept hb)
      have BX := Lib.hid (BX.out.kept hb)
      clear hb
      have BB := BX.out
      have cB := fun i => BB.cell i
      go_wp2_with fail
      clear cB BB
      refine (Land_any _ _ _ _ L c _ HT.out).mono ?_
      rintro e ya ⟨a1, a2, a3, a4, ca, rfl, hl, hb⟩
      have Hl := Lib.hid hl
      clear hl
      have HB := Lib.hid (up_later HB.out hb)
      have HT := Lib.hid (HT.out.kept hb)
      have BX := Lib.hid (BX.out.kept hb)
      clear hb
      go_wp2_with fail
      have AA := Walls_any _ _ _ _ L _ i j k t ya Hl.out
      rw [HW1.out] at AA
      refine AA.mono ?_
      rintro e yb ⟨p, q, rfl, hp, hq, hb⟩
      clear AA Hl
      have HB := Lib.hid (up_later HB.out hb)
      have HT := Lib.hid (HT.out.kept hb)
      have BX := Lib.hid (BX.out.kept hb)
      clear hb
      have BB := BX.out
      have cB := fun i => BB.cell i
      go_wp2_with fail
      clear cB BB
      refine (Land_any _ _ _ _ L c _ HT.out).mono ?_
      rintro e ya ⟨a1, a2, a3, a4, ca, rfl, hl, hb⟩
      have Hl := Lib.hid hl
      clear hl
      have HB := Lib.hid (up_later HB.out hb)
      have HT := Lib.hid (HT.out.kept hb)
      have BX := Lib.hid (BX.out.kept hb)
      have hp := hp.kept hb
      have hq := hq.kept hb
      clear hb
      go_wp2_with fail
      have AA := Walls_any _ _ _ _ L _ j i k t ya Hl.out
      rw [HW2.out] at AA
      refine AA.mono ?_
      rintro e yb ⟨p2, q2, rfl, hp2, hq2, hb⟩
      clear AA Hl
      have HB := Lib.hid (up_later HB.out hb)
      have HT := Lib.hid (HT.out.kept hb)
      have BX := Lib.hid (BX.out.kept hb)
      have hp := hp.kept hb
      have hq := hq.kept hb
      clear hb
      have BB := BX.out
      have cB := fun i => BB.cell i
      go_wp2_with fail
      clear cB BB
      refine (Land_any _ _ _ _ L c _ HT.out).mono ?_
      rintro e ya ⟨a1, a2, a3, a4, ca, rfl, hl, hb⟩
      have Hl := Lib.hid hl
      clear hl
      have HB := Lib.hid (up_later HB.out hb)
      have HT := Lib.hid (HT.out.kept hb)
      have BX := Lib.hid (BX.out.kept hb)
      have hp := hp.kept hb
      have hq := hq.kept hb
      have hp2 := hp2.kept hb
      have hq2 := hq2.kept hb
      clear hb
      go_wp2_with fail
      have AA := Mirrors_any _ _ _ _ L _ i j t ya Hl.out
      rw [HM1.out] at AA
      refine AA.mono ?_
      rintro e yb ⟨rfl, hb⟩
      clear AA Hl
      have HB := Lib.hid (up_later HB.out hb)
      have HT := Lib.hid (HT.out.kept hb)
      have BX := Lib.hid (BX.out.kept hb)
      have hp := hp.kept hb
      have hq := hq.kept hb
      have hp2 := hp2.kept hb
      have hq2 := hq2.kept hb
      clear hb
      have BB := BX.out
      have cB := fun i => BB.cell i
      go_wp2_with fail
      clear cB BB
      refine (Land_any _ _ _ _ L c _ HT.out).mono ?_
      rintro e ya ⟨a1, a2, a3, a4, ca, rfl, hl, hb⟩
      have Hl := Lib.hid hl
      clear hl
      have HB := Lib.hid (up_later HB.out hb)
      have HT := Lib.hid (HT.out.kept hb)
      have BX := Lib.hid (BX.out.kept hb)
      have hp := hp.kept hb
      have hq := hq.kept hb
      have hp2 := hp2.kept hb
      have hq2 := hq2.kept hb
      clear hb
      go_wp2_with fail
      have AA := Mirrors_any _ _ _ _ L _ j i t ya Hl.out
      rw [HM2.out] at AA
      refine AA.mono ?_
      rintro e yb ⟨rfl, hb⟩
      clear AA Hl
      have HB := Lib.hid (up_later HB.out hb)
      have HT := Lib.hid (HT.out.kept hb)
      have BX := Lib.hid (BX.out.kept hb)
      have hp := hp.kept hb
      have hq := hq.kept hb
      have hp2 := hp2.kept hb
      have hq2 := hq2.kept hb
      clear hb
      have BB := BX.out
      have cB := fun i => BB.cell i
      go_wp2_with fail
      clear cB BB
      refine (Land_any _ _ _ _ L c _ HT.out).mono ?_
      rintro e ya ⟨a1, a2, a3, a4, ca, rfl, hl, hb⟩
      have Hl := Lib.hid hl
      clear hl
      have HB := Lib.hid (up_later HB.out hb)
      have HT := Lib.hid (HT.out.kept hb)
      have BX := Lib.hid (BX.out.kept hb)
      have hp := hp.kept hb
      have hq := hq.kept hb
      have hp2 := hp2.kept hb
      have hq2 := hq2.kept hb
      clear hb
      go_wp2_with fail
      have AA := Why_any _ _ _ _ L _ i j k t ya Hl.out
      rw [HY.out] at AA
      refine AA.mono ?_
      rintro e yb ⟨rfl, hb⟩
      clear AA Hl
      have HB := Lib.hid (up_later HB.out hb)
      have HT := Lib.hid (HT.out.kept hb)
      have BX := Lib.hid (BX.out.kept hb)
      have hp := hp.kept hb
      have hq := hq.kept hb
      have hp2 := hp2.kept hb
      have hq2 := hq2.kept hb
      clear hb
      have eP := Lib.hid (beq_self_eq_true (ridgesI L i j))
      have eQ := Lib.hid (beq_self_eq_true (cloudsI L i j k t))
      go_wp2_with fail
      refine (ints_any _ _ _ _ _ hp hp2).mono ?_
      rintro e yc ⟨rfl, hb⟩
      rw [eP.out]
      have HB := Lib.hid (up_later HB.out hb)
      have HT := Lib.hid (HT.out.kept hb)
      have BX := Lib.hid (BX.out.kept hb)
      have hp := hp.kept hb
      have hq := hq.kept hb
      have hp2 := hp2.kept hb
      have hq2 := hq2.kept hb
      clear hb
      go_wp2_with fail
      refine (ints_any _ _ _ _ _ hq hq2).mono ?_
      rintro e yd ⟨rfl, hb⟩
      rw [eQ.out]
      have HB := Lib.hid (up_later HB.out hb)
      have HT := Lib.hid (HT.out.kept hb)
      have BX := Lib.hid (BX.out.kept hb)
      have hp := hp.kept hb
      have hq := hq.kept hb
      have hp2 := hp2.kept hb
      have hq2 := hq2.kept hb
      clear hb
      obtain ⟨_, Ap, capp, hpe, _, _⟩ := hp.form
      obtain ⟨_, Aq, capq, hqe, _, _⟩ := hq.form
      subst hpe
      subst hqe
      have qu : yd.cell? ⟨b4, f4 + t * 3 + 2, none⟩ = some (.int .i64 sn.u) := HT.out.sn.cellAt Hsn.out (j := 2) rfl
      have qm : yd.cell? ⟨b1, o1' + i * 4 + 3, none⟩ = some (.int .i64 s1.m) := HT.out.st.cellAt HS1.out (j := 3) rfl
      have HP := Lib.hid hp
      have HQ := Lib.hid hq
      clear hp hq hp2 hq2
      have BB := BX.out
      have cB := fun i => BB.cell i
      go_wp2_with fail
      refine (awake_any _).mono ?_
      rintro e y9 ⟨rfl, hb⟩
      go_wp2_with fail
      go_ret
      exact ⟨by simp [go_sem], up_later HB.out hb⟩
    · rw [hu, if_neg hup] at hm1 hm2
      have hnb : behindL L i j t = true → behindL L j i t = false := fun h => behind_once _ _ _ _ _ _ h
      cases hbb : behindL L i j t with
      | true =>
        rw [hbb, if_pos rfl] at hm1
        rw [hnb hbb, if_neg (by simp)] at hm2
        have HM1 := Lib.hid hm1
        have HM2 := Lib.hid hm2
        by_cases hs : s1.m = 1
        · have HY := Lib.hid (show whyE L i j k t = (2, 0, 0) by rw [hye]; unfold whyI; rw [hu, if_neg hup, hbb, hsm, hs]; rfl)
          have hs2 : s1.m < 2 := by omega
          clear hm1 hm2 hye hu hsm hs hnb hbb hmm
          go_enter Try.func8, Try.ntmps8
          go_wp2_with fail
          have BX := Lib.hid (Box.new (w := w) (t := 27) (cs := #[.slice (some ⟨b1, o1', none⟩) L.st.length cap1, .slice A2 L.rg.length cap2, .slice A3 c.length cap3, .slice (some ⟨b4, f4, none⟩) L.sn.length cap4]) rfl)
          have HB := Lib.hid (up_alloc (up0 (w := w)) (.cells #[.slice (some ⟨b1, o1', none⟩) L.st.length cap1, .slice A2 L.rg.length cap2, .slice A3 c.length cap3, .slice (some ⟨b4, f4, none⟩) L.sn.length cap4] 27))
          have HT := Lib.hid (HT0.out.kept HB.out)
          refine (Lready_any _ _ _ _ L c _ (HA.out.kept HB.out)).mono ?_
          rintro e y0 ⟨rfl, hb⟩
          rw [Hr.out]
          have HB := Lib.hid (up_later HB.out hb)
          have HT := Lib.hid (HT.out.kept hb)
          have BX := Lib.hid (BX.out.kept hb)
          clear hb
          have BB := BX.out
          have cB := fun i => BB.cell i
          go_wp2_with fail
          clear cB BB
          refine (Lpair_any _ L.st.length cap1 _ _ _ x _ h1n hn1 hx).mono ?_
          rintro e y1 ⟨rfl, hb⟩
          rw [Hpi.out, Hpj.out]
          have HB := Lib.hid (up_later HB.out hb)
          have HT := Lib.hid (HT.out.kept hb)
          have BX := Lib.hid (BX.out.kept hb)
          clear hb
          have BB := BX.out
          have cB := fun i => BB.cell i
          have hk := Hk.out
          have ht := Ht.out
          go_wp2_with fail
          go_region
          clear cB BB hk ht
          rw [Hk.out, Ht.out]
          have hb := up_drew (up0 (w := y1))
          have HB := Lib.hid (up_later HB.out hb)
          have HT := Lib.hid (HT.out.kept hb)
          have BX := Lib.hid (BX.out.kept hb)
          clear hb
          have BB := BX.out
          have cB := fun i => BB.cell i
          go_wp2_with fail
          clear cB BB
          refine (Land_any _ _ _ _ L c _ HT.out).mono ?_
          rintro e ya ⟨a1, a2, a3, a4, ca, rfl, hl, hb⟩
          have Hl := Lib.hid hl
          clear hl
          have HB := Lib.hid (up_later HB.out hb)
          have HT := Lib.hid (HT.out.kept hb)
          have BX := Lib.hid (BX.out.kept hb)
          clear hb
          go_wp2_with fail
          have AA := Walls_any _ _ _ _ L _ i j k t ya Hl.out
          rw [HW1.out] at AA
          refine AA.mono ?_
          rintro e yb ⟨p, q, rfl, hp, hq, hb⟩
          clear AA Hl
          have HB := Lib.hid (up_later HB.out hb)
          have HT := Lib.hid (HT.out.kept hb)
          have BX := Lib.hid (BX.out.kept hb)
          clear hb
          have BB := BX.out
          have cB := fun i => BB.cell i
          go_wp2_with fail
          clear cB BB
          refine (Land_any _ _ _ _ L c _ HT.out).mono ?_
          rintro e ya ⟨a1, a2, a3, a4, ca, rfl, hl, hb⟩
          have Hl := Lib.hid hl
          clear hl
          have HB := Lib.hid (up_later HB.out hb)
          have HT := Lib.hid (HT.out.kept hb)
          have BX := Lib.hid (BX.out.kept hb)
          have hp := hp.kept hb
          have hq := hq.kept hb
          clear hb
          go_wp2_with fail
          have AA := Walls_any _ _ _ _ L _ j i k t ya Hl.out
          rw [HW2.out] at AA
          refine AA.mono ?_
          rintro e yb ⟨p2, q2, rfl, hp2, hq2, hb⟩
          clear AA Hl
          have HB := Lib.hid (up_later HB.out hb)
          have HT := Lib.hid (HT.out.kept hb)
          have BX := Lib.hid (BX.out.kept hb)
          have hp := hp.kept hb
          have hq := hq.kept hb
          clear hb
          have BB := BX.out
          have cB := fun i => BB.cell i
          go_wp2_with fail
          clear cB BB
          refine (Land_any _ _ _ _ L c _ HT.out).mono ?_
          rintro e ya ⟨a1, a2, a3, a4, ca, rfl, hl, hb⟩
          have Hl := Lib.hid hl
          clear hl
          have HB := Lib.hid (up_later HB.out hb)
          have HT := Lib.hid (HT.out.kept hb)
          have BX := Lib.hid (BX.out.kept hb)
          have hp := hp.kept hb
          have hq := hq.kept hb
          have hp2 := hp2.kept hb
          have hq2 := hq2.kept hb
          clear hb
          go_wp2_with fail
          have AA := Mirrors_any _ _ _ _ L _ i j t ya Hl.out
          rw [HM1.out] at AA
          refine AA.mono ?_
          rintro e yb ⟨rfl, hb⟩
          clear AA Hl
          have HB := Lib.hid (up_later HB.out hb)
          have HT := Lib.hid (HT.out.kept hb)
          have BX := Lib.hid (BX.out.kept hb)
          have hp := hp.kept hb
          have hq := hq.kept hb
          have hp2 := hp2.kept hb
          have hq2 := hq2.kept hb
          clear hb
          have BB := BX.out
          have cB := fun i => BB.cell i
          go_wp2_with fail
          clear cB BB
          refine (Land_any _ _ _ _ L c _ HT.out).mono ?_
          rintro e ya ⟨a1, a2, a3, a4, ca, rfl, hl, hb⟩
          have Hl := Lib.hid hl
          clear hl
          have HB := Lib.hid (up_later HB.out hb)
          have HT := Lib.hid (HT.out.kept hb)
          have BX := Lib.hid (BX.out.kept hb)
          have hp := hp.kept hb
          have hq := hq.kept hb
          have hp2 := hp2.kept hb
          have hq2 := hq2.kept hb
          clear hb
          go_wp2_with fail
          have AA := Mirrors_any _ _ _ _ L _ j i t ya Hl.out
          rw [HM2.out] at AA
          refine AA.mono ?_
          rintro e yb ⟨rfl, hb⟩
          clear AA Hl
          have HB := Lib.hid (up_later HB.out hb)
          have HT := Lib.hid (HT.out.kept hb)
          have BX := Lib.hid (BX.out.kept hb)
          have hp := hp.kept hb
          have hq := hq.kept hb
          have hp2 := hp2.kept hb
          have hq2 := hq2.kept hb
          clear hb
          have BB := BX.out
          have cB := fun i => BB.cell i
          go_wp2_with fail
          clear cB BB
          refine (Land_any _ _ _ _ L c _ HT.out).mono ?_
          rintro e ya ⟨a1, a2, a3, a4, ca, rfl, hl, hb⟩
          have Hl := Lib.hid hl
          clear hl
          have HB := Lib.hid (up_later HB.out hb)
          have HT := Lib.hid (HT.out.kept hb)
          have BX := Lib.hid (BX.out.kept hb)
          have hp := hp.kept hb
          have hq := hq.kept hb
          have hp2 := hp2.kept hb
          have hq2 := hq2.kept hb
          clear hb
          go_wp2_with fail
          have AA := Why_any _ _ _ _ L _ i j k t ya Hl.out
          rw [HY.out] at AA
          refine AA.mono ?_
          rintro e yb ⟨rfl, hb⟩
          clear AA Hl
          have HB := Lib.hid (up_later HB.out hb)
          have HT := Lib.hid (HT.out.kept hb)
          have BX := Lib.hid (BX.out.kept hb)
          have hp := hp.kept hb
          have hq := hq.kept hb
          have hp2 := hp2.kept hb
          have hq2 := hq2.kept hb
          clear hb
          have eP := Lib.hid (beq_self_eq_true (ridgesI L i j))
          have eQ := Lib.hid (beq_self_eq_true (cloudsI L i j k t))
          go_wp2_with fail
          refine (ints_any _ _ _ _ _ hp hp2).mono ?_
          rintro e yc ⟨rfl, hb⟩
          rw [eP.out]
          have HB := Lib.hid (up_later HB.out hb)
          have HT := Lib.hid (HT.out.kept hb)
          have BX := Lib.hid (BX.out.kept hb)
          have hp := hp.kept hb
          have hq := hq.kept hb
          have hp2 := hp2.kept hb
          have hq2 := hq2.kept hb
          clear hb
          go_wp2_with fail
          refine (ints_any _ _ _ _ _ hq hq2).mono ?_
          rintro e yd ⟨rfl, hb⟩
          rw [eQ.out]
          have HB := Lib.hid (up_later HB.out hb)
          have HT := Lib.hid (HT.out.kept hb)
          have BX := Lib.hid (BX.out.kept hb)
          have hp := hp.kept hb
          have hq := hq.kept hb
          have hp2 := hp2.kept hb
          have hq2 := hq2.kept hb
          clear hb
          obtain ⟨_, Ap, capp, hpe, _, _⟩ := hp.form
          obtain ⟨_, Aq, capq, hqe, _, _⟩ := hq.form
          subst hpe
          subst hqe
          have qu : yd.cell? ⟨b4, f4 + t * 3 + 2, none⟩ = some (.int .i64 sn.u) := HT.out.sn.cellAt Hsn.out (j := 2) rfl
          have qm : yd.cell? ⟨b1, o1' + i * 4 + 3, none⟩ = some (.int .i64 s1.m) := HT.out.st.cellAt HS1.out (j := 3) rfl
          have HP := Lib.hid hp
          have HQ := Lib.hid hq
          clear hp hq hp2 hq2
          have BB := BX.out
          have cB := fun i => BB.cell i
          go_wp2_with fail
          refine (awake_any _).mono ?_
          rintro e y9 ⟨rfl, hb⟩
          go_wp2_with fail
          go_ret
          exact ⟨by simp [go_sem], up_later HB.out hb⟩
        · have hb1 : (if (behindL L i j t && (stAt L i).m == 1) = true then ((2 : Int), (0 : Int)) else if ridgesI L i j ≠ [] then (3, (ridgesI L i j).headD 0) else if cloudsI L i j k t ≠ [] then (4, (cloudsI L i j k t).headD 0) else (0, 0)) = if ridgesI L i j ≠ [] then (3, (ridgesI L i j).headD 0) else if cloudsI L i j k t ≠ [] then (4, (cloudsI L i j k t).headD 0) else (0, 0) := by
            rw [if_neg (by rw [hsm]; simp [hs])]
          have hs2 : ¬ s1.m < 2 := by omega
          clear hm1 hm2 hsm hs hnb hbb hmm
          by_cases hP : ridgesI L i j = []
          · by_cases hQ : cloudsI L i j k t = []
            · have HY := Lib.hid (show whyE L i j k t = (0, 0, 0) by rw [hye]; unfold whyI; rw [hu, if_neg hup, hb1, if_neg (by simp [hP]), if_neg (by simp [hQ])])
              have np : ¬ (0 : Int) < ((ridgesI L i j).length : Int) := by rw [hP]; simp
              have nq : ¬ (0 : Int) < ((cloudsI L i j k t).length : Int) := by rw [hQ]; simp
              clear hye hu hP hQ hb1
              go_enter Try.func8, Try.ntmps8
              go_wp2_with fail
              have BX := Lib.hid (Box.new (w := w) (t := 27) (cs := #[.slice (some ⟨b1, o1', none⟩) L.st.length cap1, .slice A2 L.rg.length cap2, .slice A3 c.length cap3, .slice (some ⟨b4, f4, none⟩) L.sn.length cap4]) rfl)
              have HB := Lib.hid (up_alloc (up0 (w := w)) (.cells #[.slice (some ⟨b1, o1', none⟩) L.st.length cap1, .slice A2 L.rg.length cap2, .slice A3 c.length cap3, .slice (some ⟨b4, f4, none⟩) L.sn.length cap4] 27))
              have HT := Lib.hid (HT0.out.kept HB.out)
              refine (Lready_any _ _ _ _ L c _ (HA.out.kept HB.out)).mono ?_
              rintro e y0 ⟨rfl, hb⟩
              rw [Hr.out]
              have HB := Lib.hid (up_later HB.out hb)
              have HT := Lib.hid (HT.out.kept hb)
              have BX := Lib.hid (BX.out.kept hb)
              clear hb
              have BB := BX.out
              have cB := fun i => BB.cell i
              go_wp2_with fail
              clear cB BB
              refine (Lpair_any _ L.st.length cap1 _ _ _ x _ h1n hn1 hx).mono ?_
              rintro e y1 ⟨rfl, hb⟩
              rw [Hpi.out, Hpj.out]
              have HB := Lib.hid (up_later HB.out hb)
              have HT := Lib.hid (HT.out.kept hb)
              have BX := Lib.hid (BX.out.kept hb)
              clear hb
              have BB := BX.out
              have cB := fun i => BB.cell i
              have hk := Hk.out
              have ht := Ht.out
              go_wp2_with fail
              go_region
              clear cB BB hk ht
              rw [Hk.out, Ht.out]
              have hb := up_drew (up0 (w := y1))
              have HB := Lib.hid (up_later HB.out hb)
              have HT := Lib.hid (HT.out.kept hb)
              have BX := Lib.hid (BX.out.kept hb)
              clear hb
              have BB := BX.out
              have cB := fun i => BB.cell i
              go_wp2_with fail
              clear cB BB
              refine (Land_any _ _ _ _ L c _ HT.out).mono ?_
              rintro e ya ⟨a1, a2, a3, a4, ca, rfl, hl, hb⟩
              have Hl := Lib.hid hl
              clear hl
              have HB := Lib.hid (up_later HB.out hb)
              have HT := Lib.hid (HT.out.kept hb)
              have BX := Lib.hid (BX.out.kept hb)
              clear hb
              go_wp2_with fail
              have AA := Walls_any _ _ _ _ L _ i j k t ya Hl.out
              rw [HW1.out] at AA
              refine AA.mono ?_
              rintro e yb ⟨p, q, rfl, hp, hq, hb⟩
              clear AA Hl
              have HB := Lib.hid (up_later HB.out hb)
              have HT := Lib.hid (HT.out.kept hb)
              have BX := Lib.hid (BX.out.kept hb)
              clear hb
              have BB := BX.out
              have cB := fun i => BB.cell i
              go_wp2_with fail
              clear cB BB
              refine (Land_any _ _ _ _ L c _ HT.out).mono ?_
              rintro e ya ⟨a1, a2, a3, a4, ca, rfl, hl, hb⟩
              have Hl := Lib.hid hl
              clear hl
              have HB := Lib.hid (up_later HB.out hb)
              have HT := Lib.hid (HT.out.kept hb)
              have BX := Lib.hid (BX.out.kept hb)
              have hp := hp.kept hb
              have hq := hq.kept hb
              clear hb
              go_wp2_with fail
              have AA := Walls_any _ _ _ _ L _ j i k t ya Hl.out
              rw [HW2.out] at AA
              refine AA.mono ?_
              rintro e yb ⟨p2, q2, rfl, hp2, hq2, hb⟩
              clear AA Hl
              have HB := Lib.hid (up_later HB.out hb)
              have HT := Lib.hid (HT.out.kept hb)
              have BX := Lib.hid (BX.out.kept hb)
              have hp := hp.kept hb
              have hq := hq.kept hb
              clear hb
              have BB := BX.out
              have cB := fun i => BB.cell i
              go_wp2_with fail
              clear cB BB
              refine (Land_any _ _ _ _ L c _ HT.out).mono ?_
              rintro e ya ⟨a1, a2, a3, a4, ca, rfl, hl, hb⟩
              have Hl := Lib.hid hl
              clear hl
              have HB := Lib.hid (up_later HB.out hb)
              have HT := Lib.hid (HT.out.kept hb)
              have BX := Lib.hid (BX.out.kept hb)
              have hp := hp.kept hb
              have hq := hq.kept hb
              have hp2 := hp2.kept hb
              have hq2 := hq2.kept hb
              clear hb
              go_wp2_with fail
              have AA := Mirrors_any _ _ _ _ L _ i j t ya Hl.out
              rw [HM1.out] at AA
              refine AA.mono ?_
              rintro e yb ⟨rfl, hb⟩
              clear AA Hl
              have HB := Lib.hid (up_later HB.out hb)
              have HT := Lib.hid (HT.out.kept hb)
              have BX := Lib.hid (BX.out.kept hb)
              have hp := hp.kept hb
              have hq := hq.kept hb
              have hp2 := hp2.kept hb
              have hq2 := hq2.kept hb
              clear hb
              have BB := BX.out
              have cB := fun i => BB.cell i
              go_wp2_with fail
              clear cB BB
              refine (Land_any _ _ _ _ L c _ HT.out).mono ?_
              rintro e ya ⟨a1, a2, a3, a4, ca, rfl, hl, hb⟩
              have Hl := Lib.hid hl
              clear hl
              have HB := Lib.hid (up_later HB.out hb)
              have HT := Lib.hid (HT.out.kept hb)
              have BX := Lib.hid (BX.out.kept hb)
              have hp := hp.kept hb
              have hq := hq.kept hb
              have hp2 := hp2.kept hb
              have hq2 := hq2.kept hb
              clear hb
              go_wp2_with fail
              have AA := Mirrors_any _ _ _ _ L _ j i t ya Hl.out
              rw [HM2.out] at AA
              refine AA.mono ?_
              rintro e yb ⟨rfl, hb⟩
              clear AA Hl
              have HB := Lib.hid (up_later HB.out hb)
              have HT := Lib.hid (HT.out.kept hb)
              have BX := Lib.hid (BX.out.kept hb)
              have hp := hp.kept hb
              have hq := hq.kept hb
              have hp2 := hp2.kept hb
              have hq2 := hq2.kept hb
              clear hb
              have BB := BX.out
              have cB := fun i => BB.cell i
              go_wp2_with fail
              clear cB BB
              refine (Land_any _ _ _ _ L c _ HT.out).mono ?_
              rintro e ya ⟨a1, a2, a3, a4, ca, rfl, hl, hb⟩
              have Hl := Lib.hid hl
              clear hl
              have HB := Lib.hid (up_later HB.out hb)
              have HT := Lib.hid (HT.out.kept hb)
              have BX := Lib.hid (BX.out.kept hb)
              have hp := hp.kept hb
              have hq := hq.kept hb
              have hp2 := hp2.kept hb
              have hq2 := hq2.kept hb
              clear hb
              go_wp2_with fail
              have AA := Why_any _ _ _ _ L _ i j k t ya Hl.out
              rw [HY.out] at AA
              refine AA.mono ?_
              rintro e yb ⟨rfl, hb⟩
              clear AA Hl
              have HB := Lib.hid (up_later HB.out hb)
              have HT := Lib.hid (HT.out.kept hb)
              have BX := Lib.hid (BX.out.kept hb)
              have hp := hp.kept hb
              have hq := hq.kept hb
              have hp2 := hp2.kept hb
              have hq2 := hq2.kept hb
              clear hb
              have eP := Lib.hid (beq_self_eq_true (ridgesI L i j))
              have eQ := Lib.hid (beq_self_eq_true (cloudsI L i j k t))
              go_wp2_with fail
              refine (ints_any _ _ _ _ _ hp hp2).mono ?_
              rintro e yc ⟨rfl, hb⟩
              rw [eP.out]
              have HB := Lib.hid (up_later HB.out hb)
              have HT := Lib.hid (HT.out.kept hb)
              have BX := Lib.hid (BX.out.kept hb)
              have hp := hp.kept hb
              have hq := hq.kept hb
              have hp2 := hp2.kept hb
              have hq2 := hq2.kept hb
              clear hb
              go_wp2_with fail
              refine (ints_any _ _ _ _ _ hq hq2).mono ?_
              rintro e yd ⟨rfl, hb⟩
              rw [eQ.out]
              have HB := Lib.hid (up_later HB.out hb)
              have HT := Lib.hid (HT.out.kept hb)
              have BX := Lib.hid (BX.out.kept hb)
              have hp := hp.kept hb
              have hq := hq.kept hb
              have hp2 := hp2.kept hb
              have hq2 := hq2.kept hb
              clear hb
              obtain ⟨_, Ap, capp, hpe, _, _⟩ := hp.form
              obtain ⟨_, Aq, capq, hqe, _, _⟩ := hq.form
              subst hpe
              subst hqe
              have qu : yd.cell? ⟨b4, f4 + t * 3 + 2, none⟩ = some (.int .i64 sn.u) := HT.out.sn.cellAt Hsn.out (j := 2) rfl
              have qm : yd.cell? ⟨b1, o1' + i * 4 + 3, none⟩ = some (.int .i64 s1.m) := HT.out.st.cellAt HS1.out (j := 3) rfl
              have HP := Lib.hid hp
              have HQ := Lib.hid hq
              clear hp hq hp2 hq2
              have BB := BX.out
              have cB := fun i => BB.cell i
              go_wp2_with fail
              refine (awake_any _).mono ?_
              rintro e y9 ⟨rfl, hb⟩
              go_wp2_with fail
              go_ret
              exact ⟨by simp [go_sem], up_later HB.out hb⟩
            · have HY := Lib.hid (show whyE L i j k t = (4, (cloudsI L i j k t).headD 0, 0) by rw [hye]; unfold whyI; rw [hu, if_neg hup, hb1, if_neg (by simp [hP]), if_pos hQ])
              have hl := List.length_pos_iff.2 hQ
              have np : ¬ (0 : Int) < ((ridgesI L i j).length : Int) := by rw [hP]; simp
              have nq : (0 : Int) < ((cloudsI L i j k t).length : Int) := by omega
              obtain ⟨hd, hhd⟩ : ∃ h, (cloudsI L i j k t)[0]? = some h := ⟨_, List.getElem?_eq_getElem hl⟩
              have he0 : (cloudsI L i j k t).headD 0 = hd := by rw [List.headD_eq_head?_getD, List.head?_eq_getElem?, hhd]; rfl
              rw [he0] at HY
              have HH := Lib.hid hhd
              clear hye hu hP hQ hb1 he0 hhd
              go_enter Try.func8, Try.ntmps8
              go_wp2_with fail
              have BX := Lib.hid (Box.new (w := w) (t := 27) (cs := #[.slice (some ⟨b1, o1', none⟩) L.st.length cap1, .slice A2 L.rg.length cap2, .slice A3 c.length cap3, .slice (some ⟨b4, f4, none⟩) L.sn.length cap4]) rfl)
              have HB := Lib.hid (up_alloc (up0 (w := w)) (.cells #[.slice (some ⟨b1, o1', none⟩) L.st.length cap1, .slice A2 L.rg.length cap2, .slice A3 c.length cap3, .slice (some ⟨b4, f4, none⟩) L.sn.length cap4] 27))
              have HT := Lib.hid (HT0.out.kept HB.out)
              refine (Lready_any _ _ _ _ L c _ (HA.out.kept HB.out)).mono ?_
              rintro e y0 ⟨rfl, hb⟩
              rw [Hr.out]
              have HB := Lib.hid (up_later HB.out hb)
              have HT := Lib.hid (HT.out.kept hb)
              have BX := Lib.hid (BX.out.kept hb)
              clear hb
              have BB := BX.out
              have cB := fun i => BB.cell i
              go_wp2_with fail
              clear cB BB
              refine (Lpair_any _ L.st.length cap1 _ _ _ x _ h1n hn1 hx).mono ?_
              rintro e y1 ⟨rfl, hb⟩
              rw [Hpi.out, Hpj.out]
              have HB := Lib.hid (up_later HB.out hb)
              have HT := Lib.hid (HT.out.kept hb)
              have BX := Lib.hid (BX.out.kept hb)
              clear hb
              have BB := BX.out
              have cB := fun i => BB.cell i
              have hk := Hk.out
              have ht := Ht.out
              go_wp2_with fail
              go_region
              clear cB BB hk ht
              rw [Hk.out, Ht.out]
              have hb := up_drew (up0 (w := y1))
              have HB := Lib.hid (up_later HB.out hb)
              have HT := Lib.hid (HT.out.kept hb)
              have BX := Lib.hid (BX.out.kept hb)
              clear hb
              have BB := BX.out
              have cB := fun i => BB.cell i
              go_wp2_with fail
              clear cB BB
              refine (Land_any _ _ _ _ L c _ HT.out).mono ?_
              rintro e ya ⟨a1, a2, a3, a4, ca, rfl, hl, hb⟩
              have Hl := Lib.hid hl
              clear hl
              have HB := Lib.hid (up_later HB.out hb)
              have HT := Lib.hid (HT.out.kept hb)
              have BX := Lib.hid (BX.out.kept hb)
              clear hb
              go_wp2_with fail
              have AA := Walls_any _ _ _ _ L _ i j k t ya Hl.out
              rw [HW1.out] at AA
              refine AA.mono ?_
              rintro e yb ⟨p, q, rfl, hp, hq, hb⟩
              clear AA Hl
              have HB := Lib.hid (up_later HB.out hb)
              have HT := Lib.hid (HT.out.kept hb)
              have BX := Lib.hid (BX.out.kept hb)
              clear hb
              have BB := BX.out
              have cB := fun i => BB.cell i
              go_wp2_with fail
              clear cB BB
              refine (Land_any _ _ _ _ L c _ HT.out).mono ?_
              rintro e ya ⟨a1, a2, a3, a4, ca, rfl, hl, hb⟩
              have Hl := Lib.hid hl
              clear hl
              have HB := Lib.hid (up_later HB.out hb)
              have HT := Lib.hid (HT.out.kept hb)
              have BX := Lib.hid (BX.out.kept hb)
              have hp := hp.kept hb
              have hq := hq.kept hb
              clear hb
              go_wp2_with fail
              have AA := Walls_any _ _ _ _ L _ j i k t ya Hl.out
              rw [HW2.out] at AA
              refine AA.mono ?_
              rintro e yb ⟨p2, q2, rfl, hp2, hq2, hb⟩
              clear AA Hl
              have HB := Lib.hid (up_later HB.out hb)
              have HT := Lib.hid (HT.out.kept hb)
              have BX := Lib.hid (BX.out.kept hb)
              have hp := hp.kept hb
              have hq := hq.kept hb
              clear hb
              have BB := BX.out
              have cB := fun i => BB.cell i
              go_wp2_with fail
              clear cB BB
              refine (Land_any _ _ _ _ L c _ HT.out).mono ?_
              rintro e ya ⟨a1, a2, a3, a4, ca, rfl, hl, hb⟩
              have Hl := Lib.hid hl
              clear hl
              have HB := Lib.hid (up_later HB.out hb)
              have HT := Lib.hid (HT.out.kept hb)
              have BX := Lib.hid (BX.out.kept hb)
              have hp := hp.kept hb
              have hq := hq.kept hb
              have hp2 := hp2.kept hb
              have hq2 := hq2.kept hb
              clear hb
              go_wp2_with fail
              have AA := Mirrors_any _ _ _ _ L _ i j t ya Hl.out
              rw [HM1.out] at AA
              refine AA.mono ?_
              rintro e yb ⟨rfl, hb⟩
              clear AA Hl
              have HB := Lib.hid (up_later HB.out hb)
              have HT := Lib.hid (HT.out.kept hb)
              have BX := Lib.hid (BX.out.kept hb)
              have hp := hp.kept hb
              have hq := hq.kept hb
              have hp2 := hp2.kept hb
              have hq2 := hq2.kept hb
              clear hb
              have BB := BX.out
              have cB := fun i => BB.cell i
              go_wp2_with fail
              clear cB BB
              refine (Land_any _ _ _ _ L c _ HT.out).mono ?_
              rintro e ya ⟨a1, a2, a3, a4, ca, rfl, hl, hb⟩
              have Hl := Lib.hid hl
              clear hl
              have HB := Lib.hid (up_later HB.out hb)
              have HT := Lib.hid (HT.out.kept hb)
              have BX := Lib.hid (BX.out.kept hb)
              have hp := hp.kept hb
              have hq := hq.kept hb
              have hp2 := hp2.kept hb
              have hq2 := hq2.kept hb
              clear hb
              go_wp2_with fail
              have AA := Mirrors_any _ _ _ _ L _ j i t ya Hl.out
              rw [HM2.out] at AA
              refine AA.mono ?_
              rintro e yb ⟨rfl, hb⟩
              clear AA Hl
              have HB := Lib.hid (up_later HB.out hb)
              have HT := Lib.hid (HT.out.kept hb)
              have BX := Lib.hid (BX.out.kept hb)
              have hp := hp.kept hb
              have hq := hq.kept hb
              have hp2 := hp2.kept hb
              have hq2 := hq2.kept hb
              clear hb
              have BB := BX.out
              have cB := fun i => BB.cell i
              go_wp2_with fail
              clear cB BB
              refine (Land_any _ _ _ _ L c _ HT.out).mono ?_
              rintro e ya ⟨a1, a2, a3, a4, ca, rfl, hl, hb⟩
              have Hl := Lib.hid hl
              clear hl
              have HB := Lib.hid (up_later HB.out hb)
              have HT := Lib.hid (HT.out.kept hb)
              have BX := Lib.hid (BX.out.kept hb)
              have hp := hp.kept hb
              have hq := hq.kept hb
              have hp2 := hp2.kept hb
              have hq2 := hq2.kept hb
              clear hb
              go_wp2_with fail
              have AA := Why_any _ _ _ _ L _ i j k t ya Hl.out
              rw [HY.out] at AA
              refine AA.mono ?_
              rintro e yb ⟨rfl, hb⟩
              clear AA Hl
              have HB := Lib.hid (up_later HB.out hb)
              have HT := Lib.hid (HT.out.kept hb)
              have BX := Lib.hid (BX.out.kept hb)
              have hp := hp.kept hb
              have hq := hq.kept hb
              have hp2 := hp2.kept hb
              have hq2 := hq2.kept hb
              clear hb
              have eP := Lib.hid (beq_self_eq_true (ridgesI L i j))
              have eQ := Lib.hid (beq_self_eq_true (cloudsI L i j k t))
              go_wp2_with fail
              refine (ints_any _ _ _ _ _ hp hp2).mono ?_
              rintro e yc ⟨rfl, hb⟩
              rw [eP.out]
              have HB := Lib.hid (up_later HB.out hb)
              have HT := Lib.hid (HT.out.kept hb)
              have BX := Lib.hid (BX.out.kept hb)
              have hp := hp.kept hb
              have hq := hq.kept hb
              have hp2 := hp2.kept hb
              have hq2 := hq2.kept hb
              clear hb
              go_wp2_with fail
              refine (ints_any _ _ _ _ _ hq hq2).mono ?_
              rintro e yd ⟨rfl, hb⟩
              rw [eQ.out]
              have HB := Lib.hid (up_later HB.out hb)
              have HT := Lib.hid (HT.out.kept hb)
              have BX := Lib.hid (BX.out.kept hb)
              have hp := hp.kept hb
              have hq := hq.kept hb
              have hp2 := hp2.kept hb
              have hq2 := hq2.kept hb
              clear hb
              obtain ⟨_, Ap, capp, hpe, _, _⟩ := hp.form
              obtain ⟨_, Aq, capq, hqe, _, _⟩ := hq.form
              subst hpe
              subst hqe
              have qu : yd.cell? ⟨b4, f4 + t * 3 + 2, none⟩ = some (.int .i64 sn.u) := HT.out.sn.cellAt Hsn.out (j := 2) rfl
              have qm : yd.cell? ⟨b1, o1' + i * 4 + 3, none⟩ = some (.int .i64 s1.m) := HT.out.st.cellAt HS1.out (j := 3) rfl
              have HP := Lib.hid hp
              have HQ := Lib.hid hq
              clear hp hq hp2 hq2
              obtain ⟨bq, oq, rfl, _, hcq⟩ := HQ.out.at rfl HH.out
              have qq : yd.cell? ⟨bq, oq, none⟩ = some (.int .i64 hd) := by simpa using hcq 0 _ rfl
              clear hcq
              have BB := BX.out
              have cB := fun i => BB.cell i
              go_wp2_with fail
              refine (awake_any _).mono ?_
              rintro e y9 ⟨rfl, hb⟩
              go_wp2_with fail
              go_ret
              exact ⟨by simp [go_sem], up_later HB.out hb⟩
          · have HY := Lib.hid (show whyE L i j k t = (3, (ridgesI L i j).headD 0, 0) by rw [hye]; unfold whyI; rw [hu, if_neg hup, hb1, if_pos hP])
            have hl := List.length_pos_iff.2 hP
            have np : (0 : Int) < ((ridgesI L i j).length : Int) := by omega
            obtain ⟨hd, hhd⟩ : ∃ h, (ridgesI L i j)[0]? = some h := ⟨_, List.getElem?_eq_getElem hl⟩
            have he0 : (ridgesI L i j).headD 0 = hd := by rw [List.headD_eq_head?_getD, List.head?_eq_getElem?, hhd]; rfl
            rw [he0] at HY
            have HH := Lib.hid hhd
            clear hye hu hP hb1 he0 hhd
            go_enter Try.func8, Try.ntmps8
            go_wp2_with fail
            have BX := Lib.hid (Box.new (w := w) (t := 27) (cs := #[.slice (some ⟨b1, o1', none⟩) L.st.length cap1, .slice A2 L.rg.length cap2, .slice A3 c.length cap3, .slice (some ⟨b4, f4, none⟩) L.sn.length cap4]) rfl)
            have HB := Lib.hid (up_alloc (up0 (w := w)) (.cells #[.slice (some ⟨b1, o1', none⟩) L.st.length cap1, .slice A2 L.rg.length cap2, .slice A3 c.length cap3, .slice (some ⟨b4, f4, none⟩) L.sn.length cap4] 27))
            have HT := Lib.hid (HT0.out.kept HB.out)
            refine (Lready_any _ _ _ _ L c _ (HA.out.kept HB.out)).mono ?_
            rintro e y0 ⟨rfl, hb⟩
            rw [Hr.out]
            have HB := Lib.hid (up_later HB.out hb)
            have HT := Lib.hid (HT.out.kept hb)
            have BX := Lib.hid (BX.out.kept hb)
            clear hb
            have BB := BX.out
            have cB := fun i => BB.cell i
            go_wp2_with fail
            clear cB BB
            refine (Lpair_any _ L.st.length cap1 _ _ _ x _ h1n hn1 hx).mono ?_
            rintro e y1 ⟨rfl, hb⟩
            rw [Hpi.out, Hpj.out]
            have HB := Lib.hid (up_later HB.out hb)
            have HT := Lib.hid (HT.out.kept hb)
            have BX := Lib.hid (BX.out.kept hb)
            clear hb
            have BB := BX.out
            have cB := fun i => BB.cell i
            have hk := Hk.out
            have ht := Ht.out
            go_wp2_with fail
            go_region
            clear cB BB hk ht
            rw [Hk.out, Ht.out]
            have hb := up_drew (up0 (w := y1))
            have HB := Lib.hid (up_later HB.out hb)
            have HT := Lib.hid (HT.out.kept hb)
            have BX := Lib.hid (BX.out.kept hb)
            clear hb
            have BB := BX.out
            have cB := fun i => BB.cell i
            go_wp2_with fail
            clear cB BB
            refine (Land_any _ _ _ _ L c _ HT.out).mono ?_
            rintro e ya ⟨a1, a2, a3, a4, ca, rfl, hl, hb⟩
            have Hl := Lib.hid hl
            clear hl
            have HB := Lib.hid (up_later HB.out hb)
            have HT := Lib.hid (HT.out.kept hb)
            have BX := Lib.hid (BX.out.kept hb)
            clear hb
            go_wp2_with fail
            have AA := Walls_any _ _ _ _ L _ i j k t ya Hl.out
            rw [HW1.out] at AA
            refine AA.mono ?_
            rintro e yb ⟨p, q, rfl, hp, hq, hb⟩
            clear AA Hl
            have HB := Lib.hid (up_later HB.out hb)
            have HT := Lib.hid (HT.out.kept hb)
            have BX := Lib.hid (BX.out.kept hb)
            clear hb
            have BB := BX.out
            have cB := fun i => BB.cell i
            go_wp2_with fail
            clear cB BB
            refine (Land_any _ _ _ _ L c _ HT.out).mono ?_
            rintro e ya ⟨a1, a2, a3, a4, ca, rfl, hl, hb⟩
            have Hl := Lib.hid hl
            clear hl
            have HB := Lib.hid (up_later HB.out hb)
            have HT := Lib.hid (HT.out.kept hb)
            have BX := Lib.hid (BX.out.kept hb)
            have hp := hp.kept hb
            have hq := hq.kept hb
            clear hb
            go_wp2_with fail
            have AA := Walls_any _ _ _ _ L _ j i k t ya Hl.out
            rw [HW2.out] at AA
            refine AA.mono ?_
            rintro e yb ⟨p2, q2, rfl, hp2, hq2, hb⟩
            clear AA Hl
            have HB := Lib.hid (up_later HB.out hb)
            have HT := Lib.hid (HT.out.kept hb)
            have BX := Lib.hid (BX.out.kept hb)
            have hp := hp.kept hb
            have hq := hq.kept hb
            clear hb
            have BB := BX.out
            have cB := fun i => BB.cell i
            go_wp2_with fail
            clear cB BB
            refine (Land_any _ _ _ _ L c _ HT.out).mono ?_
            rintro e ya ⟨a1, a2, a3, a4, ca, rfl, hl, hb⟩
            have Hl := Lib.hid hl
            clear hl
            have HB := Lib.hid (up_later HB.out hb)
            have HT := Lib.hid (HT.out.kept hb)
            have BX := Lib.hid (BX.out.kept hb)
            have hp := hp.kept hb
            have hq := hq.kept hb
            have hp2 := hp2.kept hb
            have hq2 := hq2.kept hb
            clear hb
            go_wp2_with fail
            have AA := Mirrors_any _ _ _ _ L _ i j t ya Hl.out
            rw [HM1.out] at AA
            refine AA.mono ?_
            rintro e yb ⟨rfl, hb⟩
            clear AA Hl
            have HB := Lib.hid (up_later HB.out hb)
            have HT := Lib.hid (HT.out.kept hb)
            have BX := Lib.hid (BX.out.kept hb)
            have hp := hp.kept hb
            have hq := hq.kept hb
            have hp2 := hp2.kept hb
            have hq2 := hq2.kept hb
            clear hb
            have BB := BX.out
            have cB := fun i => BB.cell i
            go_wp2_with fail
            clear cB BB
            refine (Land_any _ _ _ _ L c _ HT.out).mono ?_
            rintro e ya ⟨a1, a2, a3, a4, ca, rfl, hl, hb⟩
            have Hl := Lib.hid hl
            clear hl
            have HB := Lib.hid (up_later HB.out hb)
            have HT := Lib.hid (HT.out.kept hb)
            have BX := Lib.hid (BX.out.kept hb)
            have hp := hp.kept hb
            have hq := hq.kept hb
            have hp2 := hp2.kept hb
            have hq2 := hq2.kept hb
            clear hb
            go_wp2_with fail
            have AA := Mirrors_any _ _ _ _ L _ j i t ya Hl.out
            rw [HM2.out] at AA
            refine AA.mono ?_
            rintro e yb ⟨rfl, hb⟩
            clear AA Hl
            have HB := Lib.hid (up_later HB.out hb)
            have HT := Lib.hid (HT.out.kept hb)
            have BX := Lib.hid (BX.out.kept hb)
            have hp := hp.kept hb
            have hq := hq.kept hb
            have hp2 := hp2.kept hb
            have hq2 := hq2.kept hb
            clear hb
            have BB := BX.out
            have cB := fun i => BB.cell i
            go_wp2_with fail
            clear cB BB
            refine (Land_any _ _ _ _ L c _ HT.out).mono ?_
            rintro e ya ⟨a1, a2, a3, a4, ca, rfl, hl, hb⟩
            have Hl := Lib.hid hl
            clear hl
            have HB := Lib.hid (up_later HB.out hb)
            have HT := Lib.hid (HT.out.kept hb)
            have BX := Lib.hid (BX.out.kept hb)
            have hp := hp.kept hb
            have hq := hq.kept hb
            have hp2 := hp2.kept hb
            have hq2 := hq2.kept hb
            clear hb
            go_wp2_with fail
            have AA := Why_any _ _ _ _ L _ i j k t ya Hl.out
            rw [HY.out] at AA
            refine AA.mono ?_
            rintro e yb ⟨rfl, hb⟩
            clear AA Hl
            have HB := Lib.hid (up_later HB.out hb)
            have HT := Lib.hid (HT.out.kept hb)
            have BX := Lib.hid (BX.out.kept hb)
            have hp := hp.kept hb
            have hq := hq.kept hb
            have hp2 := hp2.kept hb
            have hq2 := hq2.kept hb
            clear hb
            have eP := Lib.hid (beq_self_eq_true (ridgesI L i j))
            have eQ := Lib.hid (beq_self_eq_true (cloudsI L i j k t))
            go_wp2_with fail
            refine (ints_any _ _ _ _ _ hp hp2).mono ?_
            rintro e yc ⟨rfl, hb⟩
            rw [eP.out]
            have HB := Lib.hid (up_later HB.out hb)
            have HT := Lib.hid (HT.out.kept hb)
            have BX := Lib.hid (BX.out.kept hb)
            have hp := hp.kept hb
            have hq := hq.kept hb
            have hp2 := hp2.kept hb
            have hq2 := hq2.kept hb
            clear hb
            go_wp2_with fail
            refine (ints_any _ _ _ _ _ hq hq2).mono ?_
            rintro e yd ⟨rfl, hb⟩
            rw [eQ.out]
            have HB := Lib.hid (up_later HB.out hb)
            have HT := Lib.hid (HT.out.kept hb)
            have BX := Lib.hid (BX.out.kept hb)
            have hp := hp.kept hb
            have hq := hq.kept hb
            have hp2 := hp2.kept hb
            have hq2 := hq2.kept hb
            clear hb
            obtain ⟨_, Ap, capp, hpe, _, _⟩ := hp.form
            obtain ⟨_, Aq, capq, hqe, _, _⟩ := hq.form
            subst hpe
            subst hqe
            have qu : yd.cell? ⟨b4, f4 + t * 3 + 2, none⟩ = some (.int .i64 sn.u) := HT.out.sn.cellAt Hsn.out (j := 2) rfl
            have qm : yd.cell? ⟨b1, o1' + i * 4 + 3, none⟩ = some (.int .i64 s1.m) := HT.out.st.cellAt HS1.out (j := 3) rfl
            have HP := Lib.hid hp
            have HQ := Lib.hid hq
            clear hp hq hp2 hq2
            obtain ⟨bq, oq, rfl, _, hcq⟩ := HP.out.at rfl HH.out
            have qq : yd.cell? ⟨bq, oq, none⟩ = some (.int .i64 hd) := by simpa using hcq 0 _ rfl
            clear hcq
            have BB := BX.out
            have cB := fun i => BB.cell i
            go_wp2_with fail
            refine (awake_any _).mono ?_
            rintro e y9 ⟨rfl, hb⟩
            go_wp2_with fail
            go_ret
            exact ⟨by simp [go_sem], up_later HB.out hb⟩
      | false =>
        rw [hbb, if_neg (by simp)] at hm1
        obtain ⟨m2, hm2', h21, h22⟩ : ∃ m2 : Int, mirI L j i t = (m2, 0) ∧ 1 ≤ m2 ∧ m2 ≤ 2 := by
          rw [hm2]
          cases behindL L j i t
          · exact ⟨1, rfl, by omega, by omega⟩
          · exact ⟨2, rfl, by omega, by omega⟩
        have HM1 := Lib.hid hm1
        have HM2 := Lib.hid hm2'
        have hb1 : (if (behindL L i j t && (stAt L i).m == 1) = true then ((2 : Int), (0 : Int)) else if ridgesI L i j ≠ [] then (3, (ridgesI L i j).headD 0) else if cloudsI L i j k t ≠ [] then (4, (cloudsI L i j k t).headD 0) else (0, 0)) = if ridgesI L i j ≠ [] then (3, (ridgesI L i j).headD 0) else if cloudsI L i j k t ≠ [] then (4, (cloudsI L i j k t).headD 0) else (0, 0) := by
          rw [if_neg (by rw [hbb]; simp)]
        have hs2 : ¬ s1.m < 1 := by omega
        clear hm1 hm2 hm2' hsm hnb hbb hmm
        by_cases hP : ridgesI L i j = []
        · by_cases hQ : cloudsI L i j k t = []
          · have HY := Lib.hid (show whyE L i j k t = (0, 0, 0) by rw [hye]; unfold whyI; rw [hu, if_neg hup, hb1, if_neg (by simp [hP]), if_neg (by simp [hQ])])
            have np : ¬ (0 : Int) < ((ridgesI L i j).length : Int) := by rw [hP]; simp
            have nq : ¬ (0 : Int) < ((cloudsI L i j k t).length : Int) := by rw [hQ]; simp
            clear hye hu hP hQ hb1
            go_enter Try.func8, Try.ntmps8
            go_wp2_with fail
            have BX := Lib.hid (Box.new (w := w) (t := 27) (cs := #[.slice (some ⟨b1, o1', none⟩) L.st.length cap1, .slice A2 L.rg.length cap2, .slice A3 c.length cap3, .slice (some ⟨b4, f4, none⟩) L.sn.length cap4]) rfl)
            have HB := Lib.hid (up_alloc (up0 (w := w)) (.cells #[.slice (some ⟨b1, o1', none⟩) L.st.length cap1, .slice A2 L.rg.length cap2, .slice A3 c.length cap3, .slice (some ⟨b4, f4, none⟩) L.sn.length cap4] 27))
            have HT := Lib.hid (HT0.out.kept HB.out)
            refine (Lready_any _ _ _ _ L c _ (HA.out.kept HB.out)).mono ?_
            rintro e y0 ⟨rfl, hb⟩
            rw [Hr.out]
            have HB := Lib.hid (up_later HB.out hb)
            have HT := Lib.hid (HT.out.kept hb)
            have BX := Lib.hid (BX.out.kept hb)
            clear hb
            have BB := BX.out
            have cB := fun i => BB.cell i
            go_wp2_with fail
            clear cB BB
            refine (Lpair_any _ L.st.length cap1 _ _ _ x _ h1n hn1 hx).mono ?_
            rintro e y1 ⟨rfl, hb⟩
            rw [Hpi.out, Hpj.out]
            have HB := Lib.hid (up_later HB.out hb)
            have HT := Lib.hid (HT.out.kept hb)
            have BX := Lib.hid (BX.out.kept hb)
            clear hb
            have BB := BX.out
            have cB := fun i => BB.cell i
            have hk := Hk.out
            have ht := Ht.out
            go_wp2_with fail
            go_region
            clear cB BB hk ht
            rw [Hk.out, Ht.out]
            have hb := up_drew (up0 (w := y1))
            have HB := Lib.hid (up_later HB.out hb)
            have HT := Lib.hid (HT.out.kept hb)
            have BX := Lib.hid (BX.out.kept hb)
            clear hb
            have BB := BX.out
            have cB := fun i => BB.cell i
            go_wp2_with fail
            clear cB BB
            refine (Land_any _ _ _ _ L c _ HT.out).mono ?_
            rintro e ya ⟨a1, a2, a3, a4, ca, rfl, hl, hb⟩
            have Hl := Lib.hid hl
            clear hl
            have HB := Lib.hid (up_later HB.out hb)
            have HT := Lib.hid (HT.out.kept hb)
            have BX := Lib.hid (BX.out.kept hb)
            clear hb
            go_wp2_with fail
            have AA := Walls_any _ _ _ _ L _ i j k t ya Hl.out
            rw [HW1.out] at AA
            refine AA.mono ?_
            rintro e yb ⟨p, q, rfl, hp, hq, hb⟩
            clear AA Hl
            have HB := Lib.hid (up_later HB.out hb)
            have HT := Lib.hid (HT.out.kept hb)
            have BX := Lib.hid (BX.out.kept hb)
            clear hb
            have BB := BX.out
            have cB := fun i => BB.cell i
            go_wp2_with fail
            clear cB BB
            refine (Land_any _ _ _ _ L c _ HT.out).mono ?_
            rintro e ya ⟨a1, a2, a3, a4, ca, rfl, hl, hb⟩
            have Hl := Lib.hid hl
            clear hl
            have HB := Lib.hid (up_later HB.out hb)
            have HT := Lib.hid (HT.out.kept hb)
            have BX := Lib.hid (BX.out.kept hb)
            have hp := hp.kept hb
            have hq := hq.kept hb
            clear hb
            go_wp2_with fail
            have AA := Walls_any _ _ _ _ L _ j i k t ya Hl.out
            rw [HW2.out] at AA
            refine AA.mono ?_
            rintro e yb ⟨p2, q2, rfl, hp2, hq2, hb⟩
            clear AA Hl
            have HB := Lib.hid (up_later HB.out hb)
            have HT := Lib.hid (HT.out.kept hb)
            have BX := Lib.hid (BX.out.kept hb)
            have hp := hp.kept hb
            have hq := hq.kept hb
            clear hb
            have BB := BX.out
            have cB := fun i => BB.cell i
            go_wp2_with fail
            clear cB BB
            refine (Land_any _ _ _ _ L c _ HT.out).mono ?_
            rintro e ya ⟨a1, a2, a3, a4, ca, rfl, hl, hb⟩
            have Hl := Lib.hid hl
            clear hl
            have HB := Lib.hid (up_later HB.out hb)
            have HT := Lib.hid (HT.out.kept hb)
            have BX := Lib.hid (BX.out.kept hb)
            have hp := hp.kept hb
            have hq := hq.kept hb
            have hp2 := hp2.kept hb
            have hq2 := hq2.kept hb
            clear hb
            go_wp2_with fail
            have AA := Mirrors_any _ _ _ _ L _ i j t ya Hl.out
            rw [HM1.out] at AA
            refine AA.mono ?_
            rintro e yb ⟨rfl, hb⟩
            clear AA Hl
            have HB := Lib.hid (up_later HB.out hb)
            have HT := Lib.hid (HT.out.kept hb)
            have BX := Lib.hid (BX.out.kept hb)
            have hp := hp.kept hb
            have hq := hq.kept hb
            have hp2 := hp2.kept hb
            have hq2 := hq2.kept hb
            clear hb
            have BB := BX.out
            have cB := fun i => BB.cell i
            go_wp2_with fail
            clear cB BB
            refine (Land_any _ _ _ _ L c _ HT.out).mono ?_
            rintro e ya ⟨a1, a2, a3, a4, ca, rfl, hl, hb⟩
            have Hl := Lib.hid hl
            clear hl
            have HB := Lib.hid (up_later HB.out hb)
            have HT := Lib.hid (HT.out.kept hb)
            have BX := Lib.hid (BX.out.kept hb)
            have hp := hp.kept hb
            have hq := hq.kept hb
            have hp2 := hp2.kept hb
            have hq2 := hq2.kept hb
            clear hb
            go_wp2_with fail
            have AA := Mirrors_any _ _ _ _ L _ j i t ya Hl.out
            rw [HM2.out] at AA
            refine AA.mono ?_
            rintro e yb ⟨rfl, hb⟩
            clear AA Hl
            have HB := Lib.hid (up_later HB.out hb)
            have HT := Lib.hid (HT.out.kept hb)
            have BX := Lib.hid (BX.out.kept hb)
            have hp := hp.kept hb
            have hq := hq.kept hb
            have hp2 := hp2.kept hb
            have hq2 := hq2.kept hb
            clear hb
            have BB := BX.out
            have cB := fun i => BB.cell i
            go_wp2_with fail
            clear cB BB
            refine (Land_any _ _ _ _ L c _ HT.out).mono ?_
            rintro e ya ⟨a1, a2, a3, a4, ca, rfl, hl, hb⟩
            have Hl := Lib.hid hl
            clear hl
            have HB := Lib.hid (up_later HB.out hb)
            have HT := Lib.hid (HT.out.kept hb)
            have BX := Lib.hid (BX.out.kept hb)
            have hp := hp.kept hb
            have hq := hq.kept hb
            have hp2 := hp2.kept hb
            have hq2 := hq2.kept hb
            clear hb
            go_wp2_with fail
            have AA := Why_any _ _ _ _ L _ i j k t ya Hl.out
            rw [HY.out] at AA
            refine AA.mono ?_
            rintro e yb ⟨rfl, hb⟩
            clear AA Hl
            have HB := Lib.hid (up_later HB.out hb)
            have HT := Lib.hid (HT.out.kept hb)
            have BX := Lib.hid (BX.out.kept hb)
            have hp := hp.kept hb
            have hq := hq.kept hb
            have hp2 := hp2.kept hb
            have hq2 := hq2.kept hb
            clear hb
            have eP := Lib.hid (beq_self_eq_true (ridgesI L i j))
            have eQ := Lib.hid (beq_self_eq_true (cloudsI L i j k t))
            go_wp2_with fail
            refine (ints_any _ _ _ _ _ hp hp2).mono ?_
            rintro e yc ⟨rfl, hb⟩
            rw [eP.out]
            have HB := Lib.hid (up_later HB.out hb)
            have HT := Lib.hid (HT.out.kept hb)
            have BX := Lib.hid (BX.out.kept hb)
            have hp := hp.kept hb
            have hq := hq.kept hb
            have hp2 := hp2.kept hb
            have hq2 := hq2.kept hb
            clear hb
            go_wp2_with fail
            refine (ints_any _ _ _ _ _ hq hq2).mono ?_
            rintro e yd ⟨rfl, hb⟩
            rw [eQ.out]
            have HB := Lib.hid (up_later HB.out hb)
            have HT := Lib.hid (HT.out.kept hb)
            have BX := Lib.hid (BX.out.kept hb)
            have hp := hp.kept hb
            have hq := hq.kept hb
            have hp2 := hp2.kept hb
            have hq2 := hq2.kept hb
            clear hb
            obtain ⟨_, Ap, capp, hpe, _, _⟩ := hp.form
            obtain ⟨_, Aq, capq, hqe, _, _⟩ := hq.form
            subst hpe
            subst hqe
            have qu : yd.cell? ⟨b4, f4 + t * 3 + 2, none⟩ = some (.int .i64 sn.u) := HT.out.sn.cellAt Hsn.out (j := 2) rfl
            have qm : yd.cell? ⟨b1, o1' + i * 4 + 3, none⟩ = some (.int .i64 s1.m) := HT.out.st.cellAt HS1.out (j := 3) rfl
            have HP := Lib.hid hp
            have HQ := Lib.hid hq
            clear hp hq hp2 hq2
            have BB := BX.out
            have cB := fun i => BB.cell i
            go_wp2_with fail
            refine (awake_any _).mono ?_
            rintro e y9 ⟨rfl, hb⟩
            go_wp2_with fail
            go_ret
            exact ⟨by simp [go_sem], up_later HB.out hb⟩
          · have HY := Lib.hid (show whyE L i j k t = (4, (cloudsI L i j k t).headD 0, 0) by rw [hye]; unfold whyI; rw [hu, if_neg hup, hb1, if_neg (by simp [hP]), if_pos hQ])
            have hl := List.length_pos_iff.2 hQ
            have np : ¬ (0 : Int) < ((ridgesI L i j).length : Int) := by rw [hP]; simp
            have nq : (0 : Int) < ((cloudsI L i j k t).length : Int) := by omega
            obtain ⟨hd, hhd⟩ : ∃ h, (cloudsI L i j k t)[0]? = some h := ⟨_, List.getElem?_eq_getElem hl⟩
            have he0 : (cloudsI L i j k t).headD 0 = hd := by rw [List.headD_eq_head?_getD, List.head?_eq_getElem?, hhd]; rfl
            rw [he0] at HY
            have HH := Lib.hid hhd
            clear hye hu hP hQ hb1 he0 hhd
            go_enter Try.func8, Try.ntmps8
            go_wp2_with fail
            have BX := Lib.hid (Box.new (w := w) (t := 27) (cs := #[.slice (some ⟨b1, o1', none⟩) L.st.length cap1, .slice A2 L.rg.length cap2, .slice A3 c.length cap3, .slice (some ⟨b4, f4, none⟩) L.sn.length cap4]) rfl)
            have HB := Lib.hid (up_alloc (up0 (w := w)) (.cells #[.slice (some ⟨b1, o1', none⟩) L.st.length cap1, .slice A2 L.rg.length cap2, .slice A3 c.length cap3, .slice (some ⟨b4, f4, none⟩) L.sn.length cap4] 27))
            have HT := Lib.hid (HT0.out.kept HB.out)
            refine (Lready_any _ _ _ _ L c _ (HA.out.kept HB.out)).mono ?_
            rintro e y0 ⟨rfl, hb⟩
            rw [Hr.out]
            have HB := Lib.hid (up_later HB.out hb)
            have HT := Lib.hid (HT.out.kept hb)
            have BX := Lib.hid (BX.out.kept hb)
            clear hb
            have BB := BX.out
            have cB := fun i => BB.cell i
            go_wp2_with fail
            clear cB BB
            refine (Lpair_any _ L.st.length cap1 _ _ _ x _ h1n hn1 hx).mono ?_
            rintro e y1 ⟨rfl, hb⟩
            rw [Hpi.out, Hpj.out]
            have HB := Lib.hid (up_later HB.out hb)
            have HT := Lib.hid (HT.out.kept hb)
            have BX := Lib.hid (BX.out.kept hb)
            clear hb
            have BB := BX.out
            have cB := fun i => BB.cell i
            have hk := Hk.out
            have ht := Ht.out
            go_wp2_with fail
            go_region
            clear cB BB hk ht
            rw [Hk.out, Ht.out]
            have hb := up_drew (up0 (w := y1))
            have HB := Lib.hid (up_later HB.out hb)
            have HT := Lib.hid (HT.out.kept hb)
            have BX := Lib.hid (BX.out.kept hb)
            clear hb
            have BB := BX.out
            have cB := fun i => BB.cell i
            go_wp2_with fail
            clear cB BB
            refine (Land_any _ _ _ _ L c _ HT.out).mono ?_
            rintro e ya ⟨a1, a2, a3, a4, ca, rfl, hl, hb⟩
            have Hl := Lib.hid hl
            clear hl
            have HB := Lib.hid (up_later HB.out hb)
            have HT := Lib.hid (HT.out.kept hb)
            have BX := Lib.hid (BX.out.kept hb)
            clear hb
            go_wp2_with fail
            have AA := Walls_any _ _ _ _ L _ i j k t ya Hl.out
            rw [HW1.out] at AA
            refine AA.mono ?_
            rintro e yb ⟨p, q, rfl, hp, hq, hb⟩
            clear AA Hl
            have HB := Lib.hid (up_later HB.out hb)
            have HT := Lib.hid (HT.out.kept hb)
            have BX := Lib.hid (BX.out.kept hb)
            clear hb
            have BB := BX.out
            have cB := fun i => BB.cell i
            go_wp2_with fail
            clear cB BB
            refine (Land_any _ _ _ _ L c _ HT.out).mono ?_
            rintro e ya ⟨a1, a2, a3, a4, ca, rfl, hl, hb⟩
            have Hl := Lib.hid hl
            clear hl
            have HB := Lib.hid (up_later HB.out hb)
            have HT := Lib.hid (HT.out.kept hb)
            have BX := Lib.hid (BX.out.kept hb)
            have hp := hp.kept hb
            have hq := hq.kept hb
            clear hb
            go_wp2_with fail
            have AA := Walls_any _ _ _ _ L _ j i k t ya Hl.out
            rw [HW2.out] at AA
            refine AA.mono ?_
            rintro e yb ⟨p2, q2, rfl, hp2, hq2, hb⟩
            clear AA Hl
            have HB := Lib.hid (up_later HB.out hb)
            have HT := Lib.hid (HT.out.kept hb)
            have BX := Lib.hid (BX.out.kept hb)
            have hp := hp.kept hb
            have hq := hq.kept hb
            clear hb
            have BB := BX.out
            have cB := fun i => BB.cell i
            go_wp2_with fail
            clear cB BB
            refine (Land_any _ _ _ _ L c _ HT.out).mono ?_
            rintro e ya ⟨a1, a2, a3, a4, ca, rfl, hl, hb⟩
            have Hl := Lib.hid hl
            clear hl
            have HB := Lib.hid (up_later HB.out hb)
            have HT := Lib.hid (HT.out.kept hb)
            have BX := Lib.hid (BX.out.kept hb)
            have hp := hp.kept hb
            have hq := hq.kept hb
            have hp2 := hp2.kept hb
            have hq2 := hq2.kept hb
            clear hb
            go_wp2_with fail
            have AA := Mirrors_any _ _ _ _ L _ i j t ya Hl.out
            rw [HM1.out] at AA
            refine AA.mono ?_
            rintro e yb ⟨rfl, hb⟩
            clear AA Hl
            have HB := Lib.hid (up_later HB.out hb)
            have HT := Lib.hid (HT.out.kept hb)
            have BX := Lib.hid (BX.out.kept hb)
            have hp := hp.kept hb
            have hq := hq.kept hb
            have hp2 := hp2.kept hb
            have hq2 := hq2.kept hb
            clear hb
            have BB := BX.out
            have cB := fun i => BB.cell i
            go_wp2_with fail
            clear cB BB
            refine (Land_any _ _ _ _ L c _ HT.out).mono ?_
            rintro e ya ⟨a1, a2, a3, a4, ca, rfl, hl, hb⟩
            have Hl := Lib.hid hl
            clear hl
            have HB := Lib.hid (up_later HB.out hb)
            have HT := Lib.hid (HT.out.kept hb)
            have BX := Lib.hid (BX.out.kept hb)
            have hp := hp.kept hb
            have hq := hq.kept hb
            have hp2 := hp2.kept hb
            have hq2 := hq2.kept hb
            clear hb
            go_wp2_with fail
            have AA := Mirrors_any _ _ _ _ L _ j i t ya Hl.out
            rw [HM2.out] at AA
            refine AA.mono ?_
            rintro e yb ⟨rfl, hb⟩
            clear AA Hl
            have HB := Lib.hid (up_later HB.out hb)
            have HT := Lib.hid (HT.out.kept hb)
            have BX := Lib.hid (BX.out.kept hb)
            have hp := hp.kept hb
            have hq := hq.kept hb
            have hp2 := hp2.kept hb
            have hq2 := hq2.kept hb
            clear hb
            have BB := BX.out
            have cB := fun i => BB.cell i
            go_wp2_with fail
            clear cB BB
            refine (Land_any _ _ _ _ L c _ HT.out).mono ?_
            rintro e ya ⟨a1, a2, a3, a4, ca, rfl, hl, hb⟩
            have Hl := Lib.hid hl
            clear hl
            have HB := Lib.hid (up_later HB.out hb)
            have HT := Lib.hid (HT.out.kept hb)
            have BX := Lib.hid (BX.out.kept hb)
            have hp := hp.kept hb
            have hq := hq.kept hb
            have hp2 := hp2.kept hb
            have hq2 := hq2.kept hb
            clear hb
            go_wp2_with fail
            have AA := Why_any _ _ _ _ L _ i j k t ya Hl.out
            rw [HY.out] at AA
            refine AA.mono ?_
            rintro e yb ⟨rfl, hb⟩
            clear AA Hl
            have HB := Lib.hid (up_later HB.out hb)
            have HT := Lib.hid (HT.out.kept hb)
            have BX := Lib.hid (BX.out.kept hb)
            have hp := hp.kept hb
            have hq := hq.kept hb
            have hp2 := hp2.kept hb
            have hq2 := hq2.kept hb
            clear hb
            have eP := Lib.hid (beq_self_eq_true (ridgesI L i j))
            have eQ := Lib.hid (beq_self_eq_true (cloudsI L i j k t))
            go_wp2_with fail
            refine (ints_any _ _ _ _ _ hp hp2).mono ?_
            rintro e yc ⟨rfl, hb⟩
            rw [eP.out]
            have HB := Lib.hid (up_later HB.out hb)
            have HT := Lib.hid (HT.out.kept hb)
            have BX := Lib.hid (BX.out.kept hb)
            have hp := hp.kept hb
            have hq := hq.kept hb
            have hp2 := hp2.kept hb
            have hq2 := hq2.kept hb
            clear hb
            go_wp2_with fail
            refine (ints_any _ _ _ _ _ hq hq2).mono ?_
            rintro e yd ⟨rfl, hb⟩
            rw [eQ.out]
            have HB := Lib.hid (up_later HB.out hb)
            have HT := Lib.hid (HT.out.kept hb)
            have BX := Lib.hid (BX.out.kept hb)
            have hp := hp.kept hb
            have hq := hq.kept hb
            have hp2 := hp2.kept hb
            have hq2 := hq2.kept hb
            clear hb
            obtain ⟨_, Ap, capp, hpe, _, _⟩ := hp.form
            obtain ⟨_, Aq, capq, hqe, _, _⟩ := hq.form
            subst hpe
            subst hqe
            have qu : yd.cell? ⟨b4, f4 + t * 3 + 2, none⟩ = some (.int .i64 sn.u) := HT.out.sn.cellAt Hsn.out (j := 2) rfl
            have qm : yd.cell? ⟨b1, o1' + i * 4 + 3, none⟩ = some (.int .i64 s1.m) := HT.out.st.cellAt HS1.out (j := 3) rfl
            have HP := Lib.hid hp
            have HQ := Lib.hid hq
            clear hp hq hp2 hq2
            obtain ⟨bq, oq, rfl, _, hcq⟩ := HQ.out.at rfl HH.out
            have qq : yd.cell? ⟨bq, oq, none⟩ = some (.int .i64 hd) := by simpa using hcq 0 _ rfl
            clear hcq
            have BB := BX.out
            have cB := fun i => BB.cell i
            go_wp2_with fail
            refine (awake_any _).mono ?_
            rintro e y9 ⟨rfl, hb⟩
            go_wp2_with fail
            go_ret
            exact ⟨by simp [go_sem], up_later HB.out hb⟩
        · have HY := Lib.hid (show whyE L i j k t = (3, (ridgesI L i j).headD 0, 0) by rw [hye]; unfold whyI; rw [hu, if_neg hup, hb1, if_pos hP])
          have hl := List.length_pos_iff.2 hP
          have np : (0 : Int) < ((ridgesI L i j).length : Int) := by omega
          obtain ⟨hd, hhd⟩ : ∃ h, (ridgesI L i j)[0]? = some h := ⟨_, List.getElem?_eq_getElem hl⟩
          have he0 : (ridgesI L i j).headD 0 = hd := by rw [List.headD_eq_head?_getD, List.head?_eq_getElem?, hhd]; rfl
          rw [he0] at HY
          have HH := Lib.hid hhd
          clear hye hu hP hb1 he0 hhd
          go_enter Try.func8, Try.ntmps8
          go_wp2_with fail
          have BX := Lib.hid (Box.new (w := w) (t := 27) (cs := #[.slice (some ⟨b1, o1', none⟩) L.st.length cap1, .slice A2 L.rg.length cap2, .slice A3 c.length cap3, .slice (some ⟨b4, f4, none⟩) L.sn.length cap4]) rfl)
          have HB := Lib.hid (up_alloc (up0 (w := w)) (.cells #[.slice (some ⟨b1, o1', none⟩) L.st.length cap1, .slice A2 L.rg.length cap2, .slice A3 c.length cap3, .slice (some ⟨b4, f4, none⟩) L.sn.length cap4] 27))
          have HT := Lib.hid (HT0.out.kept HB.out)
          refine (Lready_any _ _ _ _ L c _ (HA.out.kept HB.out)).mono ?_
          rintro e y0 ⟨rfl, hb⟩
          rw [Hr.out]
          have HB := Lib.hid (up_later HB.out hb)
          have HT := Lib.hid (HT.out.kept hb)
          have BX := Lib.hid (BX.out.kept hb)
          clear hb
          have BB := BX.out
          have cB := fun i => BB.cell i
          go_wp2_with fail
          clear cB BB
          refine (Lpair_any _ L.st.length cap1 _ _ _ x _ h1n hn1 hx).mono ?_
          rintro e y1 ⟨rfl, hb⟩
          rw [Hpi.out, Hpj.out]
          have HB := Lib.hid (up_later HB.out hb)
          have HT := Lib.hid (HT.out.kept hb)
          have BX := Lib.hid (BX.out.kept hb)
          clear hb
          have BB := BX.out
          have cB := fun i => BB.cell i
          have hk := Hk.out
          have ht := Ht.out
          go_wp2_with fail
          go_region
          clear cB BB hk ht
          rw [Hk.out, Ht.out]
          have hb := up_drew (up0 (w := y1))
          have HB := Lib.hid (up_later HB.out hb)
          have HT := Lib.hid (HT.out.kept hb)
          have BX := Lib.hid (BX.out.kept hb)
          clear hb
          have BB := BX.out
          have cB := fun i => BB.cell i
          go_wp2_with fail
          clear cB BB
          refine (Land_any _ _ _ _ L c _ HT.out).mono ?_
          rintro e ya ⟨a1, a2, a3, a4, ca, rfl, hl, hb⟩
          have Hl := Lib.hid hl
          clear hl
          have HB := Lib.hid (up_later HB.out hb)
          have HT := Lib.hid (HT.out.kept hb)
          have BX := Lib.hid (BX.out.kept hb)
          clear hb
          go_wp2_with fail
          have AA := Walls_any _ _ _ _ L _ i j k t ya Hl.out
          rw [HW1.out] at AA
          refine AA.mono ?_
          rintro e yb ⟨p, q, rfl, hp, hq, hb⟩
          clear AA Hl
          have HB := Lib.hid (up_later HB.out hb)
          have HT := Lib.hid (HT.out.kept hb)
          have BX := Lib.hid (BX.out.kept hb)
          clear hb
          have BB := BX.out
          have cB := fun i => BB.cell i
          go_wp2_with fail
          clear cB BB
          refine (Land_any _ _ _ _ L c _ HT.out).mono ?_
          rintro e ya ⟨a1, a2, a3, a4, ca, rfl, hl, hb⟩
          have Hl := Lib.hid hl
          clear hl
          have HB := Lib.hid (up_later HB.out hb)
          have HT := Lib.hid (HT.out.kept hb)
          have BX := Lib.hid (BX.out.kept hb)
          have hp := hp.kept hb
          have hq := hq.kept hb
          clear hb
          go_wp2_with fail
          have AA := Walls_any _ _ _ _ L _ j i k t ya Hl.out
          rw [HW2.out] at AA
          refine AA.mono ?_
          rintro e yb ⟨p2, q2, rfl, hp2, hq2, hb⟩
          clear AA Hl
          have HB := Lib.hid (up_later HB.out hb)
          have HT := Lib.hid (HT.out.kept hb)
          have BX := Lib.hid (BX.out.kept hb)
          have hp := hp.kept hb
          have hq := hq.kept hb
          clear hb
          have BB := BX.out
          have cB := fun i => BB.cell i
          go_wp2_with fail
          clear cB BB
          refine (Land_any _ _ _ _ L c _ HT.out).mono ?_
          rintro e ya ⟨a1, a2, a3, a4, ca, rfl, hl, hb⟩
          have Hl := Lib.hid hl
          clear hl
          have HB := Lib.hid (up_later HB.out hb)
          have HT := Lib.hid (HT.out.kept hb)
          have BX := Lib.hid (BX.out.kept hb)
          have hp := hp.kept hb
          have hq := hq.kept hb
          have hp2 := hp2.kept hb
          have hq2 := hq2.kept hb
          clear hb
          go_wp2_with fail
          have AA := Mirrors_any _ _ _ _ L _ i j t ya Hl.out
          rw [HM1.out] at AA
          refine AA.mono ?_
          rintro e yb ⟨rfl, hb⟩
          clear AA Hl
          have HB := Lib.hid (up_later HB.out hb)
          have HT := Lib.hid (HT.out.kept hb)
          have BX := Lib.hid (BX.out.kept hb)
          have hp := hp.kept hb
          have hq := hq.kept hb
          have hp2 := hp2.kept hb
          have hq2 := hq2.kept hb
          clear hb
          have BB := BX.out
          have cB := fun i => BB.cell i
          go_wp2_with fail
          clear cB BB
          refine (Land_any _ _ _ _ L c _ HT.out).mono ?_
          rintro e ya ⟨a1, a2, a3, a4, ca, rfl, hl, hb⟩
          have Hl := Lib.hid hl
          clear hl
          have HB := Lib.hid (up_later HB.out hb)
          have HT := Lib.hid (HT.out.kept hb)
          have BX := Lib.hid (BX.out.kept hb)
          have hp := hp.kept hb
          have hq := hq.kept hb
          have hp2 := hp2.kept hb
          have hq2 := hq2.kept hb
          clear hb
          go_wp2_with fail
          have AA := Mirrors_any _ _ _ _ L _ j i t ya Hl.out
          rw [HM2.out] at AA
          refine AA.mono ?_
          rintro e yb ⟨rfl, hb⟩
          clear AA Hl
          have HB := Lib.hid (up_later HB.out hb)
          have HT := Lib.hid (HT.out.kept hb)
          have BX := Lib.hid (BX.out.kept hb)
          have hp := hp.kept hb
          have hq := hq.kept hb
          have hp2 := hp2.kept hb
          have hq2 := hq2.kept hb
          clear hb
          have BB := BX.out
          have cB := fun i => BB.cell i
          go_wp2_with fail
          clear cB BB
          refine (Land_any _ _ _ _ L c _ HT.out).mono ?_
          rintro e ya ⟨a1, a2, a3, a4, ca, rfl, hl, hb⟩
          have Hl := Lib.hid hl
          clear hl
          have HB := Lib.hid (up_later HB.out hb)
          have HT := Lib.hid (HT.out.kept hb)
          have BX := Lib.hid (BX.out.kept hb)
          have hp := hp.kept hb
          have hq := hq.kept hb
          have hp2 := hp2.kept hb
          have hq2 := hq2.kept hb
          clear hb
          go_wp2_with fail
          have AA := Why_any _ _ _ _ L _ i j k t ya Hl.out
          rw [HY.out] at AA
          refine AA.mono ?_
          rintro e yb ⟨rfl, hb⟩
          clear AA Hl
          have HB := Lib.hid (up_later HB.out hb)
          have HT := Lib.hid (HT.out.kept hb)
          have BX := Lib.hid (BX.out.kept hb)
          have hp := hp.kept hb
          have hq := hq.kept hb
          have hp2 := hp2.kept hb
          have hq2 := hq2.kept hb
          clear hb
          have eP := Lib.hid (beq_self_eq_true (ridgesI L i j))
          have eQ := Lib.hid (beq_self_eq_true (cloudsI L i j k t))
          go_wp2_with fail
          refine (ints_any _ _ _ _ _ hp hp2).mono ?_
          rintro e yc ⟨rfl, hb⟩
          rw [eP.out]
          have HB := Lib.hid (up_later HB.out hb)
          have HT := Lib.hid (HT.out.kept hb)
          have BX := Lib.hid (BX.out.kept hb)
          have hp := hp.kept hb
          have hq := hq.kept hb
          have hp2 := hp2.kept hb
          have hq2 := hq2.kept hb
          clear hb
          go_wp2_with fail
          refine (ints_any _ _ _ _ _ hq hq2).mono ?_
          rintro e yd ⟨rfl, hb⟩
          rw [eQ.out]
          have HB := Lib.hid (up_later HB.out hb)
          have HT := Lib.hid (HT.out.kept hb)
          have BX := Lib.hid (BX.out.kept hb)
          have hp := hp.kept hb
          have hq := hq.kept hb
          have hp2 := hp2.kept hb
          have hq2 := hq2.kept hb
          clear hb
          obtain ⟨_, Ap, capp, hpe, _, _⟩ := hp.form
          obtain ⟨_, Aq, capq, hqe, _, _⟩ := hq.form
          subst hpe
          subst hqe
          have qu : yd.cell? ⟨b4, f4 + t * 3 + 2, none⟩ = some (.int .i64 sn.u) := HT.out.sn.cellAt Hsn.out (j := 2) rfl
          have qm : yd.cell? ⟨b1, o1' + i * 4 + 3, none⟩ = some (.int .i64 s1.m) := HT.out.st.cellAt HS1.out (j := 3) rfl
          have HP := Lib.hid hp
          have HQ := Lib.hid hq
          clear hp hq hp2 hq2
          obtain ⟨bq, oq, rfl, _, hcq⟩ := HP.out.at rfl HH.out
          have qq : yd.cell? ⟨bq, oq, none⟩ = some (.int .i64 hd) := by simpa using hcq 0 _ rfl
          clear hcq
          have BB := BX.out
          have cB := fun i => BB.cell i
          go_wp2_with fail
          refine (awake_any _).mono ?_
          rintro e y9 ⟨rfl, hb⟩
          go_wp2_with fail
          go_ret
          exact ⟨by simp [go_sem], up_later HB.out hb⟩

end Go.Proofs.Ytpmhhdhkhhlfpaa

namespace Go.Proofs.Ytpmhhdhkhhlfpaa
open Go.ChangeShapes Go.WideShapes Go.ChangeAt Go.RowKit

theorem own_knob : ownKnob Try.prog.godebug = Option.none := by kernel_rfl
theorem laid_out : laidOutB Try.prog = true := by kernel_rfl
theorem rec27 : Try.prog.readableRec 27 = true ∧ 27 < Try.prog.types.size := ⟨by kernel_rfl, by have h : decide (27 < Try.prog.types.size) = true := (by kernel_rfl); exact of_decide_eq_true h⟩
theorem rec5 : Try.prog.readableRec 5 = true ∧ 5 < Try.prog.types.size := ⟨by kernel_rfl, by have h : decide (5 < Try.prog.types.size) = true := (by kernel_rfl); exact of_decide_eq_true h⟩
theorem und27 : Try.prog.underlying 27 = some (.struct (Try.prog.fieldsOf 27)) := by kernel_rfl

set_option maxRecDepth 100000 in
theorem ways_lifted (os : Os) (started : os.Started) (H : Type) (enc : TypeId × Value → H) :
    ReturnsInHanded {} Try.checked os 8 .any (Rows.hillWaysSpec.pre6 enc Try.prog Try.f8 Rows.hillWaysRow.domain false) (Rows.hillWaysSpec.post enc Try.prog Try.f8 false true false false) := by
  refine returnsInHanded_of_change (C := Try.checked) own_knob started (by kernel_rfl) Try.func8
    (ChangeSpec.witness6 (enc := enc) (C := Try.checked) false ⟨#[], #[.agg #[.slice Option.none 0 0, .slice Option.none 0 0, .slice Option.none 0 0, .slice Option.none 0 0], .int .u8 0, .int .u8 0, .int .u8 0], []⟩ 8 (by kernel_rfl) (by kernel_rfl) (by kernel_rfl) (by kernel_rfl)) ?_
  intro W base args ds gs before hval0 hW hcnd _
  have hval : ∀ (j : Nat) t v, Try.f8.params[j]? = some t → args[j]? = some v → Value.okWide Try.prog W .any base t v := hval0
  have hW' := hW
  obtain ⟨p, q, hA0, hV, rfl, hfz, hnd⟩ := hW
  have hA : DataW.TrodAll enc Try.prog W 0 (fun _ => true) true Try.f8.params.toList args.toList ds p := hA0
  rw [Try.params8] at hA hval
  have hlt : ∀ x ∈ p, x.block < W.heap.size := fun x hx => hW'.lt x (List.mem_append_left _ hx)
  have hAk := hA
  obtain ⟨v0, vs0, d0, ds0, p0, q0, hargs, rfl, rfl, h0, r0⟩ := trodAll_cons hA
  obtain ⟨v1, vs1, d1, ds1, p1, q1, rfl, rfl, rfl, h1, r1⟩ := trodAll_cons r0
  obtain ⟨v2, vs2, d2, ds2, p2, q2, rfl, rfl, rfl, h2, r2⟩ := trodAll_cons r1
  obtain ⟨v3, vs3, d3, ds3, p3, q3, rfl, rfl, rfl, h3, r3⟩ := trodAll_cons r2
  obtain ⟨rfl, rfl, rfl⟩ := trodAll_nil r3
  obtain rfl : args = #[v0, v1, v2, v3] := by cases args; simp_all
  obtain ⟨rfl, rfl⟩ := trodVars_none hV
  obtain ⟨a1, rfl, rfl, rfl, w1⟩ := open_int Try.underlying5 (hval 1 5 v1 rfl rfl) h1
  obtain ⟨a2, rfl, rfl, rfl, w2⟩ := open_int Try.underlying5 (hval 2 5 v2 rfl rfl) h2
  obtain ⟨a3, rfl, rfl, rfl, w3⟩ := open_int Try.underlying5 (hval 3 5 v3 rfl rfl) h3
  obtain ⟨cs, rfl, _⟩ := okWide_struct und27 (hval 0 27 v0 rfl rfl)
  obtain ⟨fuel, h0⟩ := h0
  obtain ⟨u1, u2, u3, u4, L, c, hcs, hL⟩ := open_land h0
  obtain rfl : cs = #[u1, u2, u3, u4] := by
    have h : cs.toList = [u1, u2, u3, u4] := hcs
    cases cs
    simp at h
    rw [h]
  clear hA0 hval0 hval hA
  simp only [List.append_nil] at hW'
  simp only [List.append_nil] at hAk hlt
  refine (ways_any u1 u2 u3 u4 L c a1 a2 a3 W hL (bounds_u8 w1) (bounds_u8 w2) (bounds_u8 w3)).mono fun e W' ⟨he, hg⟩ => ?_
  subst he
  refine ⟨_, rfl, post_below (pv := []) hW' hg (fun _ _ _ => (trodAll_cons_mk (shut_bool Try.underlying4 _) trodAll_mk0)) (fun sp hsp => ?_) (fun _ _ => rfl) (List.append_nil _).symm
    (ok_one (by kernel_rfl) rfl (okWide_bool_mk Try.underlying4 _))⟩
  rw [Try.params8]
  refine args_stay laid_out hg (fun t ht => ?_) hAk hlt sp (fun x hx => hsp x (by first | exact hx | simpa using hx))
  simp only [List.mem_cons, List.not_mem_nil, or_false] at ht
  rcases ht with rfl | rfl | rfl | rfl
  · exact rec27
  · exact rec5
  · exact rec5
  · exact rec5

theorem ways_over : Rows.hillWaysRow.holds Try.pinned (OpenSpec.ofChange Rows.hillWaysSpec) :=
  OpenClaim.holds_of_wide 8 Try.f8 rfl rfl rfl rfl rfl rfl rfl ⟨rfl, rfl, rfl, rfl, rfl⟩ rfl rfl rfl rfl rfl (by kernel_rfl) Try.func8 (by kernel_rfl)
    (of_decide_eq_true (by kernel_rfl)) (by unfold Func.isWrapper; first | (rw [if_pos (by decide +kernel)]; kernel_rfl) | (rw [if_neg (by decide +kernel)]; exact ⟨rfl, rfl⟩))
    (fun os started H enc _ => ways_lifted os started H enc)

theorem HillWays_holds : Rows.HillWaysSaid := ways_over

end Go.Proofs.Ytpmhhdhkhhlfpaa
