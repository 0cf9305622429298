/-
  HillAlways holds: Always has just the hours that Hours returns for each case; Stick names the first case in which the station cannot flash. No condition.
-/
import Derived.Test.YtlnagjdokfkjoaaMe
import Derived.Test.YtlnagjdokfkjoaaUp
namespace Go.Proofs.Ytlnagjdokfkjoaa
open Go.RowKit


set_option maxRecDepth 100000 in
set_option maxHeartbeats 3000000 in
theorem always_law (v1 v2 v3 v4 : Value) (L : Ld) (c : List (Value × List Cl)) (x z : Int) (w : World) (hL : LandAny w v1 v2 v3 v4 L c) (hx : 0 ≤ x ∧ x ≤ 255) (hz : 0 ≤ z ∧ z ≤ 255) :
    Calls Try.prog 11 #[.agg #[v1, v2, v3, v4], .int .u8 x, .int .u8 z] w fun e w' => e = .returned (.bool true) ∧ Below w.heap.size w w' := by
  have HA := Lib.hid hL
  obtain ⟨A1, cap1, rfl, _, _⟩ := hL.st.form
  obtain ⟨A2, cap2, rfl, _, _⟩ := hL.rg.form
  obtain ⟨A3, cap3, rfl, _, _⟩ := hL.cs.form
  obtain ⟨A4, cap4, rfl, _, _⟩ := hL.sn.form
  have Hcl := Lib.hid (show c.length = L.cs.length by rw [← hL.eq]; simp)
  obtain ⟨hz0, hz1⟩ := hz
  clear hL
  cases hr : readyB L with
  | false =>
    have Hr := Lib.hid hr
    clear hr
    go_enter Try.func11, Try.ntmps11
    go_wp2_with fail
    refine (Lready_any _ _ _ _ L c _ (HA.out.kept (up_alloc up0 _))).mono ?_
    rintro e y0 ⟨rfl, hb⟩
    rw [Hr.out]
    go_wp2_with fail
    refine (awake_any _).mono ?_
    rintro e y1 ⟨rfl, hb2⟩
    go_wp2_with fail
    go_ret
    exact ⟨rfl, up_later (up_later (up_alloc up0 _) hb) hb2⟩
  | true =>
    have hq := hr
    simp only [readyB, Bool.and_eq_true, beq_iff_eq, decide_eq_true_eq] at hq
    obtain ⟨⟨hth, he⟩, h1n⟩ := hq
    have hT := HA.out.thin hth
    have hok := land_ok he
    obtain ⟨_, hl6, _, hc0, hc4, hs0, hs12⟩ := hok.len
    have hcl := Hcl.out
    obtain ⟨i, hi, hin⟩ := nat_mod (x := x) (n := L.st.length) (by omega)
    obtain ⟨j, hj, hjn⟩ := nat_mod (x := x % (L.st.length : Int) + 1 + x / 8 % ((L.st.length : Int) - 1)) (n := L.st.length) (by omega)
    obtain ⟨t, ht, htn⟩ := nat_mod (x := z) (n := L.sn.length) (by omega)
    have hij : i ≠ j := by
      have h := mod_ne (n := (L.st.length : Int)) (x := x) (by omega)
      rw [hi] at h hj
      rw [hj] at h
      omega
    have o1 : ∀ k h : Nat, k < L.cs.length → h < L.sn.length → openI L k h [(i : Int), (j : Int)] = 0 := fun k h hk hh => open_zero he hin hjn hk hh hij
    have HH := Lib.hid (show ∀ k : Nat, k < L.cs.length → hoursE L i j k = (uptoF (fun h => freeB L i j k h) L.sn.length, 0) from fun k hk => by
      have := o1 k 0 hk (by omega)
      unfold hoursE
      rw [if_neg (by simpa using this)])
    have HY := Lib.hid (show alwaysE L i j = (uptoF (fun h => (stuckI L i j h).isEmpty) L.sn.length, 0) by
      have := o1 0 0 (by omega) (by omega)
      unfold alwaysE
      rw [if_neg (by simpa using this)])
    have hs1 : stickE L i j t = if stuckI L i j t = [] then (0, 7) else ((stuckI L i j t).headD 0, 0) := by
      have := o1 0 t (by omega) htn
      unfold stickE
      rw [if_neg (by simpa using this)]
    have hw2 : ∀ k : Nat, k < L.cs.length → withinB (uptoF (fun h => (stuckI L i j h).isEmpty) L.sn.length) (uptoF (fun h => freeB L i j k h) L.sn.length) = true := fun k hk => within_upto fun h _ hp => stuck_nil.1 (List.isEmpty_iff.1 hp) k hk
    have HW2 := Lib.hid hw2
    have hw3 : ∀ k : Nat, withinB [(t : Int)] (uptoF (fun h => freeB L i j k h) L.sn.length) = freeB L i j k t := fun k => within_one htn
    have HW3 := Lib.hid hw3
    have hw1 : withinB [(t : Int)] (uptoF (fun h => (stuckI L i j h).isEmpty) L.sn.length) = (stuckI L i j t).isEmpty := within_one htn
    have Hr := Lib.hid hr
    have HT0 := Lib.hid hT
    have Hpi := Lib.hid (show (pairI (L.st.length : Int) x).1 = i from hi)
    have Hpj := Lib.hid (show (pairI (L.st.length : Int) x).2 = j from hj)
    have Ht := Lib.hid ht
    have hn1 : L.st.length ≤ 1000 := by omega
    have sz : ¬ (L.sn.length : Int) = 0 := by omega
    have sz' : ((L.sn.length : Int) == 0) = false := by rw [beq_eq_false_iff_ne]; omega
    have t0 : (0 : Int) ≤ (t : Int) := by omega
    have t1 : (t : Int) < (L.sn.length : Int) := by omega
    clear hr hT hok hi hj ht hth he hcl o1 hw2 hw3
    by_cases hs : stuckI L i j t = []
    · rw [if_pos hs] at hs1
      have HS := Lib.hid hs1
      rw [hs] at hw1
      have HW1 := Lib.hid hw1
      have HF := Lib.hid (stuck_nil.1 hs)
      clear hs hs1 hw1
      go_enter Try.func11, Try.ntmps11
      go_wp2_with fail
      have BX := Lib.hid (Box.new (w := w) (t := 27) (cs := #[.slice A1 L.st.length cap1, .slice A2 L.rg.length cap2, .slice A3 c.length cap3, .slice A4 L.sn.length cap4]) rfl)
      have HB := Lib.hid (up_alloc (up0 (w := w)) (.cells #[.slice A1 L.st.length cap1, .slice A2 L.rg.length cap2, .slice A3 c.length cap3, .slice A4 L.sn.length cap4] 27))
      have HT := Lib.hid (HT0.out.kept HB.out)
      refine (Lready_any _ _ _ _ L c _ (HA.out.kept HB.out)).mono ?_
      rintro e y0 ⟨rfl, hb⟩
      rw [Hr.out]
      have HB := Lib.hid (up_later HB.out hb)
      have HT := Lib.hid (HT.out.kept hb)
      have BX := Lib.hid (BX.out.kept hb)
      clear hb
      have BB := BX.out
      have cB := fun i => BB.cell i
      go_wp2_with fail
      clear cB BB
      refine (Lpair_any _ L.st.length cap1 _ _ _ x _ h1n hn1 hx).mono ?_
      rintro e y1 ⟨rfl, hb⟩
      rw [Hpi.out, Hpj.out]
      have HB := Lib.hid (up_later HB.out hb)
      have HT := Lib.hid (HT.out.kept hb)
      have BX := Lib.hid (BX.out.kept hb)
      clear hb
      have BB := BX.out
      have cB := fun i => BB.cell i
      go_wp2_with fail
      clear cB BB
      rw [Ht.out]
      refine (Land_any _ _ _ _ L c _ HT.out).mono ?_
      rintro e ya ⟨a1, a2, a3, a4, ca, rfl, hl, hb⟩
      have Hl := Lib.hid hl
      clear hl
      have HB := Lib.hid (up_later HB.out hb)
      have HT := Lib.hid (HT.out.kept hb)
      have BX := Lib.hid (BX.out.kept hb)
      clear hb
      go_wp2_with fail
      have AA := Always_any _ _ _ _ L _ i j ya Hl.out
      rw [HY.out] at AA
      refine AA.mono ?_
      rintro e yb ⟨ua, rfl, hra, hb⟩
      obtain ⟨_, ra, rcap, rfl, _, _⟩ := hra.form
      have HA1 := Lib.hid hra
      clear AA Hl hra
      have HB := Lib.hid (up_later HB.out hb)
      have HT := Lib.hid (HT.out.kept hb)
      have BX := Lib.hid (BX.out.kept hb)
      clear hb
      have BB := BX.out
      have cB := fun i => BB.cell i
      go_wp2_with fail
      clear cB BB
      refine (Land_any _ _ _ _ L c _ HT.out).mono ?_
      rintro e ya ⟨a1, a2, a3, a4, ca, rfl, hl, hb⟩
      have Hl := Lib.hid hl
      clear hl
      have HA1 := Lib.hid (HA1.out.kept hb)
      have HB := Lib.hid (up_later HB.out hb)
      have HT := Lib.hid (HT.out.kept hb)
      have BX := Lib.hid (BX.out.kept hb)
      clear hb
      go_wp2_with fail
      have AA := Stick_any _ _ _ _ L _ i j t ya Hl.out
      rw [HS.out] at AA
      refine AA.mono ?_
      rintro e yb ⟨rfl, hb⟩
      clear AA Hl
      have HA1 := Lib.hid (HA1.out.kept hb)
      have HB := Lib.hid (up_later HB.out hb)
      have HT := Lib.hid (HT.out.kept hb)
      have BX := Lib.hid (BX.out.kept hb)
      clear hb
      have BB := BX.out
      have cB := fun i => BB.cell i
      go_wp2_with fail
      clear cB BB
      have hr1 := ints_row1 (w := yb.alloc (.cells #[iv t] 3)) (g := yb.heap.size) (a := t) (Box.new rfl)
      have hb := up_alloc (up0 (w := yb)) (.cells #[iv t] 3)
      have HA1 := Lib.hid (HA1.out.kept hb)
      have HB := Lib.hid (up_later HB.out hb)
      have HT := Lib.hid (HT.out.kept hb)
      have BX := Lib.hid (BX.out.kept hb)
      clear hb
      refine (within_any _ _ _ _ _ hr1 HA1.out).mono ?_
      rintro e yc ⟨rfl, hb⟩
      rw [HW1.out]
      clear hr1
      have HA1 := Lib.hid (HA1.out.kept hb)
      have HB := Lib.hid (up_later HB.out hb)
      have HT := Lib.hid (HT.out.kept hb)
      have BX := Lib.hid (BX.out.kept hb)
      clear hb
      have BB := BX.out
      have cB := fun i => BB.cell i
      go_wp2_with fail
      clear cB BB
      go_loopw [14] (fun q wr => ∃ m : Nat, m ≤ c.length ∧ q = .int .i64 m ∧ Hid (Below w.heap.size w wr) ∧ Hid (LandAt wr (.slice A1 L.st.length cap1) (.slice A2 L.rg.length cap2) (.slice A3 c.length cap3) (.slice A4 L.sn.length cap4) L c) ∧ Hid (Box wr w.heap.size 27 #[.slice A1 L.st.length cap1, .slice A2 L.rg.length cap2, .slice A3 c.length cap3, .slice A4 L.sn.length cap4]) ∧ Hid (RowsAt wr (.slice ra (uptoF (fun h => (stuckI L i j h).isEmpty) L.sn.length).length rcap) 1 (fun n => [iv n]) (uptoF (fun h => (stuckI L i j h).isEmpty) L.sn.length))) (fun q _ => c.length - (intOf q).toNat)
      case atStart => exact ⟨0, by omega, rfl, HB.out, HT.out, BX.out, HA1.out⟩
      case round =>
        clear HB HT BX HA1
        obtain ⟨m, hm, rfl, HB, HT, BX, HA1⟩ := hrel
        have m0 : (0 : Int) ≤ (m : Int) := by omega
        by_cases hlt : m < c.length
        · have m1 : (m : Int) < (c.length : Int) := by omega
          have hmc : m < L.cs.length := by have := Hcl.out; omega
          have HY2 := Lib.hid (HH.out m hmc)
          have HW2' := Lib.hid (HW2.out m hmc)
          have HW3' := Lib.hid (HW3.out m)
          have BB := BX.out
          have cB := fun i => BB.cell i
          go_wp2_with fail
          clear cB BB
          refine (Land_any _ _ _ _ L c _ HT.out).mono ?_
          rintro e ya ⟨a1, a2, a3, a4, ca, rfl, hl, hb⟩
          have Hl := Lib.hid hl
          clear hl
          have HA1 := Lib.hid (HA1.out.kept hb)
          have HB := Lib.hid (up_later HB.out hb)
          have HT := Lib.hid (HT.out.kept hb)
          have BX := Lib.hid (BX.out.kept hb)
          clear hb
          go_wp2_with fail
          have AA := Hours_any _ _ _ _ L _ i j m ya Hl.out
          rw [HY2.out] at AA
          refine AA.mono ?_
          rintro e yb ⟨uh, rfl, hrh, hb⟩
          obtain ⟨_, sa, scap, rfl, _, _⟩ := hrh.form
          have HA2 := Lib.hid hrh
          clear AA Hl hrh
          have HA1 := Lib.hid (HA1.out.kept hb)
          have HB := Lib.hid (up_later HB.out hb)
          have HT := Lib.hid (HT.out.kept hb)
          have BX := Lib.hid (BX.out.kept hb)
          clear hb
          go_wp2_with fail
          refine (within_any _ _ _ _ _ HA1.out HA2.out).mono ?_
          rintro e yd ⟨rfl, hb⟩
          rw [HW2'.out]
          have HA2 := Lib.hid (HA2.out.kept hb)
          have HA1 := Lib.hid (HA1.out.kept hb)
          have HB := Lib.hid (up_later HB.out hb)
          have HT := Lib.hid (HT.out.kept hb)
          have BX := Lib.hid (BX.out.kept hb)
          clear hb
          go_wp2_with fail
          have hr1 := ints_row1 (w := yd.alloc (.cells #[iv t] 3)) (g := yd.heap.size) (a := t) (Box.new rfl)
          have hb := up_alloc (up0 (w := yd)) (.cells #[iv t] 3)
          have HA2 := Lib.hid (HA2.out.kept hb)
          have HA1 := Lib.hid (HA1.out.kept hb)
          have HB := Lib.hid (up_later HB.out hb)
          have HT := Lib.hid (HT.out.kept hb)
          have BX := Lib.hid (BX.out.kept hb)
          clear hb
          refine (within_any _ _ _ _ _ hr1 HA2.out).mono ?_
          rintro e ye ⟨rfl, hb⟩
          rw [HW3'.out]
          clear hr1 HA2
          have HA1 := Lib.hid (HA1.out.kept hb)
          have HB := Lib.hid (up_later HB.out hb)
          have HT := Lib.hid (HT.out.kept hb)
          have BX := Lib.hid (BX.out.kept hb)
          clear hb
          rw [HF.out m hmc]
          go_wp2_with fail
          exact ⟨⟨m + 1, by omega, by go_num, HB.out, HT.out, BX.out, HA1.out⟩, by simp [intOf]; omega⟩
        · obtain rfl : m = c.length := by omega
          have BB := BX.out
          have cB := fun i => BB.cell i
          go_wp2_with fail
          clear cB BB
          refine (awake_any _).mono ?_
          rintro e y9 ⟨rfl, hb⟩
          go_wp2_with fail
          go_ret
          exact ⟨rfl, up_later HB.out hb⟩
    · rw [if_neg hs] at hs1
      obtain ⟨k, hkn, hk1, hk2, hk3⟩ := stuck_first hs
      rw [hk1] at hs1
      have hse : (stuckI L i j t).isEmpty = false := by
        cases hq : stuckI L i j t with
        | nil => exact absurd hq hs
        | cons a l => rfl
      rw [hse] at hw1
      have HS := Lib.hid hs1
      have HW1 := Lib.hid hw1
      have HF := Lib.hid hk3
      have HK := Lib.hid hk2
      have k0 : ¬ (k : Int) < 0 := by omega
      have k1 : (k : Int) < (c.length : Int) := by have := Hcl.out; omega
      clear hs hs1 hw1 hk1 hk2 hk3 hse
      go_enter Try.func11, Try.ntmps11
      go_wp2_with fail
      have BX := Lib.hid (Box.new (w := w) (t := 27) (cs := #[.slice A1 L.st.length cap1, .slice A2 L.rg.length cap2, .slice A3 c.length cap3, .slice A4 L.sn.length cap4]) rfl)
      have HB := Lib.hid (up_alloc (up0 (w := w)) (.cells #[.slice A1 L.st.length cap1, .slice A2 L.rg.length cap2, .slice A3 c.length cap3, .slice A4 L.sn.length cap4] 27))
      have HT := Lib.hid (HT0.out.kept HB.out)
      refine (Lready_any _ _ _ _ L c _ (HA.out.kept HB.out)).mono ?_
      rintro e y0 ⟨rfl, hb⟩
      rw [Hr.out]
      have HB := Lib.hid (up_later HB.out hb)
      have HT := Lib.hid (HT.out.kept hb)
      have BX := Lib.hid (BX.out.kept hb)
      clear hb
      have BB := BX.out
      have cB := fun i => BB.cell i
      go_wp2_with fail
      clear cB BB
      refine (Lpair_any _ L.st.length cap1 _ _ _ x _ h1n hn1 hx).mono ?_
      rintro e y1 ⟨rfl, hb⟩
      rw [Hpi.out, Hpj.out]
      have HB := Lib.hid (up_later HB.out hb)
      have HT := Lib.hid (HT.out.kept hb)
      have BX := Lib.hid (BX.out.kept hb)
      clear hb
      have BB := BX.out
      have cB := fun i => BB.cell i
      go_wp2_with fail
      clear cB BB
      rw [Ht.out]
      refine (Land_any _ _ _ _ L c _ HT.out).mono ?_
      rintro e ya ⟨a1, a2, a3, a4, ca, rfl, hl, hb⟩
      have Hl := Lib.hid hl
      clear hl
      have HB := Lib.hid (up_later HB.out hb)
      have HT := Lib.hid (HT.out.kept hb)
      have BX := Lib.hid (BX.out.kept hb)
      clear hb
      go_wp2_with fail
      have AA := Always_any _ _ _ _ L _ i j ya Hl.out
      rw [HY.out] at AA
      refine AA.mono ?_
      rintro e yb ⟨ua, rfl, hra, hb⟩
      obtain ⟨_, ra, rcap, rfl, _, _⟩ := hra.form
      have HA1 := Lib.hid hra
      clear AA Hl hra
      have HB := Lib.hid (up_later HB.out hb)
      have HT := Lib.hid (HT.out.kept hb)
      have BX := Lib.hid (BX.out.kept hb)
      clear hb
      have BB := BX.out
      have cB := fun i => BB.cell i
      go_wp2_with fail
      clear cB BB
      refine (Land_any _ _ _ _ L c _ HT.out).mono ?_
      rintro e ya ⟨a1, a2, a3, a4, ca, rfl, hl, hb⟩
      have Hl := Lib.hid hl
      clear hl
      have HA1 := Lib.hid (HA1.out.kept hb)
      have HB := Lib.hid (up_later HB.out hb)
      have HT := Lib.hid (HT.out.kept hb)
      have BX := Lib.hid (BX.out.kept hb)
      clear hb
      go_wp2_with fail
      have AA := Stick_any _ _ _ _ L _ i j t ya Hl.out
      rw [HS.out] at AA
      refine AA.mono ?_
      rintro e yb ⟨rfl, hb⟩
      clear AA Hl
      have HA1 := Lib.hid (HA1.out.kept hb)
      have HB := Lib.hid (up_later HB.out hb)
      have HT := Lib.hid (HT.out.kept hb)
      have BX := Lib.hid (BX.out.kept hb)
      clear hb
      have BB := BX.out
      have cB := fun i => BB.cell i
      go_wp2_with fail
      clear cB BB
      have hr1 := ints_row1 (w := yb.alloc (.cells #[iv t] 3)) (g := yb.heap.size) (a := t) (Box.new rfl)
      have hb := up_alloc (up0 (w := yb)) (.cells #[iv t] 3)
      have HA1 := Lib.hid (HA1.out.kept hb)
      have HB := Lib.hid (up_later HB.out hb)
      have HT := Lib.hid (HT.out.kept hb)
      have BX := Lib.hid (BX.out.kept hb)
      clear hb
      refine (within_any _ _ _ _ _ hr1 HA1.out).mono ?_
      rintro e yc ⟨rfl, hb⟩
      rw [HW1.out]
      clear hr1
      have HA1 := Lib.hid (HA1.out.kept hb)
      have HB := Lib.hid (up_later HB.out hb)
      have HT := Lib.hid (HT.out.kept hb)
      have BX := Lib.hid (BX.out.kept hb)
      clear hb
      have BB := BX.out
      have cB := fun i => BB.cell i
      go_wp2_with fail
      clear cB BB
      go_loopw [14] (fun q wr => ∃ m : Nat, m ≤ c.length ∧ q = .int .i64 m ∧ Hid (Below w.heap.size w wr) ∧ Hid (LandAt wr (.slice A1 L.st.length cap1) (.slice A2 L.rg.length cap2) (.slice A3 c.length cap3) (.slice A4 L.sn.length cap4) L c) ∧ Hid (Box wr w.heap.size 27 #[.slice A1 L.st.length cap1, .slice A2 L.rg.length cap2, .slice A3 c.length cap3, .slice A4 L.sn.length cap4]) ∧ Hid (RowsAt wr (.slice ra (uptoF (fun h => (stuckI L i j h).isEmpty) L.sn.length).length rcap) 1 (fun n => [iv n]) (uptoF (fun h => (stuckI L i j h).isEmpty) L.sn.length))) (fun q _ => c.length - (intOf q).toNat)
      case atStart => exact ⟨0, by omega, rfl, HB.out, HT.out, BX.out, HA1.out⟩
      case round =>
        clear HB HT BX HA1
        obtain ⟨m, hm, rfl, HB, HT, BX, HA1⟩ := hrel
        have m0 : (0 : Int) ≤ (m : Int) := by omega
        by_cases hlt : m < c.length
        · have m1 : (m : Int) < (c.length : Int) := by omega
          have hmc : m < L.cs.length := by have := Hcl.out; omega
          have HY2 := Lib.hid (HH.out m hmc)
          have HW2' := Lib.hid (HW2.out m hmc)
          have HW3' := Lib.hid (HW3.out m)
          have BB := BX.out
          have cB := fun i => BB.cell i
          go_wp2_with fail
          clear cB BB
          refine (Land_any _ _ _ _ L c _ HT.out).mono ?_
          rintro e ya ⟨a1, a2, a3, a4, ca, rfl, hl, hb⟩
          have Hl := Lib.hid hl
          clear hl
          have HA1 := Lib.hid (HA1.out.kept hb)
          have HB := Lib.hid (up_later HB.out hb)
          have HT := Lib.hid (HT.out.kept hb)
          have BX := Lib.hid (BX.out.kept hb)
          clear hb
          go_wp2_with fail
          have AA := Hours_any _ _ _ _ L _ i j m ya Hl.out
          rw [HY2.out] at AA
          refine AA.mono ?_
          rintro e yb ⟨uh, rfl, hrh, hb⟩
          obtain ⟨_, sa, scap, rfl, _, _⟩ := hrh.form
          have HA2 := Lib.hid hrh
          clear AA Hl hrh
          have HA1 := Lib.hid (HA1.out.kept hb)
          have HB := Lib.hid (up_later HB.out hb)
          have HT := Lib.hid (HT.out.kept hb)
          have BX := Lib.hid (BX.out.kept hb)
          clear hb
          go_wp2_with fail
          refine (within_any _ _ _ _ _ HA1.out HA2.out).mono ?_
          rintro e yd ⟨rfl, hb⟩
          rw [HW2'.out]
          have HA2 := Lib.hid (HA2.out.kept hb)
          have HA1 := Lib.hid (HA1.out.kept hb)
          have HB := Lib.hid (up_later HB.out hb)
          have HT := Lib.hid (HT.out.kept hb)
          have BX := Lib.hid (BX.out.kept hb)
          clear hb
          go_wp2_with fail
          have hr1 := ints_row1 (w := yd.alloc (.cells #[iv t] 3)) (g := yd.heap.size) (a := t) (Box.new rfl)
          have hb := up_alloc (up0 (w := yd)) (.cells #[iv t] 3)
          have HA2 := Lib.hid (HA2.out.kept hb)
          have HA1 := Lib.hid (HA1.out.kept hb)
          have HB := Lib.hid (up_later HB.out hb)
          have HT := Lib.hid (HT.out.kept hb)
          have BX := Lib.hid (BX.out.kept hb)
          clear hb
          refine (within_any _ _ _ _ _ hr1 HA2.out).mono ?_
          rintro e ye ⟨rfl, hb⟩
          rw [HW3'.out]
          clear hr1 HA2
          have HA1 := Lib.hid (HA1.out.kept hb)
          have HB := Lib.hid (up_later HB.out hb)
          have HT := Lib.hid (HT.out.kept hb)
          have BX := Lib.hid (BX.out.kept hb)
          clear hb
          rcases Nat.lt_trichotomy m k with hmk | hmk | hmk
          · rw [HF.out m hmk]
            have d1 : (m : Int) < (k : Int) := by omega
            have d2 : ((m : Int) == (k : Int)) = false := by rw [beq_eq_false_iff_ne]; omega
            clear hmk
            go_wp2_with fail
            exact ⟨⟨m + 1, by omega, by go_num, HB.out, HT.out, BX.out, HA1.out⟩, by simp [intOf]; omega⟩
          · subst hmk
            rw [HK.out]
            have d1 : ¬ (m : Int) < (m : Int) := by omega
            go_wp2_with fail
            exact ⟨⟨m + 1, by omega, by go_num, HB.out, HT.out, BX.out, HA1.out⟩, by simp [intOf]; omega⟩
          · have d1 : ¬ (m : Int) < (k : Int) := by omega
            have d2 : ((m : Int) == (k : Int)) = false := by rw [beq_eq_false_iff_ne]; omega
            clear hmk
            go_wp2_with fail
            exact ⟨⟨m + 1, by omega, by go_num, HB.out, HT.out, BX.out, HA1.out⟩, by simp [intOf]; omega⟩
        · obtain rfl : m = c.length := by omega
          have BB := BX.out
          have cB := fun i => BB.cell i
          go_wp2_with fail
          clear cB BB
          refine (awake_any _).mono ?_
          rintro e y9 ⟨rfl, hb⟩
          go_wp2_with fail
          go_ret
          exact ⟨rfl, up_later HB.out hb⟩

end Go.Proofs.Ytlnagjdokfkjoaa

namespace Go.Proofs.Ytlnagjdokfkjoaa
open Go.ChangeShapes Go.WideShapes Go.ChangeAt Go.RowKit

set_option maxRecDepth 100000 in
theorem hillAlways_lifted (os : Os) (started : os.Started) (H : Type) (enc : TypeId × Value → H) :
    ReturnsInHanded {} Try.checked os 11 .any (Rows.hillAlwaysSpec.pre6 enc Try.prog Try.f11 Rows.hillAlwaysRow.domain false) (Rows.hillAlwaysSpec.post enc Try.prog Try.f11 false true false false) := by
  refine returnsInHanded_of_change (C := Try.checked) own_knob started (by kernel_rfl) Try.func11
    (ChangeSpec.witness6 (enc := enc) (C := Try.checked) false ⟨#[], #[.agg #[.slice Option.none 0 0, .slice Option.none 0 0, .slice Option.none 0 0, .slice Option.none 0 0], .int .u8 0, .int .u8 0], []⟩ 8 (by kernel_rfl) (by kernel_rfl) (by kernel_rfl) (by kernel_rfl)) ?_
  intro W base args ds gs before hval0 hW hcnd _
  have hval : ∀ (j : Nat) t v, Try.f11.params[j]? = some t → args[j]? = some v → Value.okWide Try.prog W .any base t v := hval0
  have hW' := hW
  obtain ⟨p, q, hA0, hV, rfl, hfz, hnd⟩ := hW
  have hA : DataW.TrodAll enc Try.prog W 0 (fun _ => true) true Try.f11.params.toList args.toList ds p := hA0
  rw [Try.params11] at hA hval
  have hlt : ∀ x ∈ p, x.block < W.heap.size := fun x hx => hW'.lt x (List.mem_append_left _ hx)
  have hAk := hA
  obtain ⟨v0, vs0, d0, ds0, p0, q0, hargs, rfl, rfl, h0, r0⟩ := trodAll_cons hA
  obtain ⟨v1, vs1, d1, ds1, p1, q1, rfl, rfl, rfl, h1, r1⟩ := trodAll_cons r0
  obtain ⟨v2, vs2, d2, ds2, p2, q2, rfl, rfl, rfl, h2, r2⟩ := trodAll_cons r1
  obtain ⟨rfl, rfl, rfl⟩ := trodAll_nil r2
  obtain rfl : args = #[v0, v1, v2] := by cases args; simp_all
  obtain ⟨rfl, rfl⟩ := trodVars_none hV
  obtain ⟨a1, rfl, rfl, rfl, w1⟩ := open_int Try.underlying5 (hval 1 5 v1 rfl rfl) h1
  obtain ⟨a2, rfl, rfl, rfl, w2⟩ := open_int Try.underlying5 (hval 2 5 v2 rfl rfl) h2
  obtain ⟨cs, rfl, _⟩ := okWide_struct und27 (hval 0 27 v0 rfl rfl)
  obtain ⟨fuel, h0⟩ := h0
  obtain ⟨u1, u2, u3, u4, L, c, hcs, hL⟩ := open_land h0
  obtain rfl : cs = #[u1, u2, u3, u4] := by
    have h : cs.toList = [u1, u2, u3, u4] := hcs
    cases cs
    simp at h
    rw [h]
  clear hA0 hval0 hval hA
  simp only [List.append_nil] at hW'
  simp only [List.append_nil] at hAk hlt
  refine (always_law u1 u2 u3 u4 L c a1 a2 W hL (bounds_u8 w1) (bounds_u8 w2)).mono fun e W' ⟨he, hg⟩ => ?_
  subst he
  refine ⟨_, rfl, post_below (pv := []) hW' hg (fun _ _ _ => (trodAll_cons_mk (shut_bool Try.underlying4 _) trodAll_mk0)) (fun sp hsp => ?_) (fun _ _ => rfl) (List.append_nil _).symm
    (ok_one (by kernel_rfl) rfl (okWide_bool_mk Try.underlying4 _))⟩
  rw [Try.params11]
  refine args_stay laid_out hg (fun t ht => ?_) hAk hlt sp (fun x hx => hsp x (by first | exact hx | simpa using hx))
  simp only [List.mem_cons, List.not_mem_nil, or_false] at ht
  rcases ht with rfl | rfl | rfl
  · exact rec27
  · exact rec5
  · exact rec5

theorem hillAlways_over : Rows.hillAlwaysRow.holds Try.pinned (OpenSpec.ofChange Rows.hillAlwaysSpec) :=
  OpenClaim.holds_of_wide 11 Try.f11 rfl rfl rfl rfl rfl rfl rfl ⟨rfl, rfl, rfl, rfl, rfl⟩ rfl rfl rfl rfl rfl (by kernel_rfl) Try.func11 (by kernel_rfl)
    (of_decide_eq_true (by kernel_rfl)) (by unfold Func.isWrapper; first | (rw [if_pos (by decide +kernel)]; kernel_rfl) | (rw [if_neg (by decide +kernel)]; exact ⟨rfl, rfl⟩))
    (fun os started H enc _ => hillAlways_lifted os started H enc)

theorem HillAlways_holds : Rows.HillAlwaysSaid := hillAlways_over

end Go.Proofs.Ytlnagjdokfkjoaa
