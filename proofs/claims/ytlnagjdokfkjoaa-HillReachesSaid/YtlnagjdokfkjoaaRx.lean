/-
  HillReaches holds: the stations to which any station can flash, and how many mirrors it needs, are as the reference has them, or the error is. No condition.
-/
import Derived.Test.YtlnagjdokfkjoaaRd
import Derived.Deep.CutRange
import Derived.Deep.DeepCutAuto
namespace Go.Proofs.Ytlnagjdokfkjoaa
open Go.RowKit


/-- The error of a call that is about one station. -/
theorem open_one_parts {L : Ld} {x k z : Int} {n : Nat} (hn : n = L.cs.length) (he : errI L = 0) : (openI L k z [x] == 2) = (!(inB 0 ((L.st.length : Int) - 1) x) || !(inB 0 ((n : Int) - 1) k) || !(inB 0 ((L.sn.length : Int) - 1) z)) := by
  subst hn
  have h0 : openI L k z [x] = if !(inB 0 ((L.cs.length : Int) - 1) k) || !(inB 0 ((L.sn.length : Int) - 1) z) || !([x].all (inB 0 ((L.st.length : Int) - 1))) then 2 else 0 := by
    unfold openI
    rw [if_neg (by simp [he])]
  rw [h0]
  simp only [List.all_cons, List.all_nil, Bool.and_true]
  cases inB 0 ((L.st.length : Int) - 1) x <;> cases inB 0 ((L.cs.length : Int) - 1) k <;> cases inB 0 ((L.sn.length : Int) - 1) z <;> rfl

set_option maxRecDepth 100000 in
set_option maxHeartbeats 9000000 in
theorem reaches_law (v1 v2 v3 v4 : Value) (L : Ld) (c : List (Value × List Cl)) (x y k z : Int) (w : World) (hL : LandAny w v1 v2 v3 v4 L c) :
    Calls Try.prog 5 #[.agg #[v1, v2, v3, v4], .int .i64 x, .int .i64 y, .int .i64 k, .int .i64 z] w fun e w' => e = .returned (.bool true) ∧ Below w.heap.size w w' := by
  have HA := Lib.hid hL
  obtain ⟨A1, cap1, rfl, _, _⟩ := hL.st.form
  obtain ⟨A2, cap2, rfl, _, _⟩ := hL.rg.form
  obtain ⟨A3, cap3, rfl, _, _⟩ := hL.cs.form
  obtain ⟨A4, cap4, rfl, _, _⟩ := hL.sn.form
  have Hcl := Lib.hid (show c.length = L.cs.length by rw [← hL.eq]; simp)
  clear hL
  cases hth : thinB L
  case false =>
    have Hth := Lib.hid hth
    clear hth
    go_enter Try.func5, Try.ntmps5
    go_wp2_with fail
    refine (Thin_any _ _ _ _ L c _ (HA.out.kept (up_alloc up0 _))).mono ?_
    rintro e y0 ⟨rfl, hb⟩
    rw [Hth.out]
    go_wp2_with fail
    refine (awake_any _).mono ?_
    rintro e y1 ⟨rfl, hb2⟩
    go_wp2_with fail
    go_ret
    exact ⟨rfl, up_later (up_later (up_alloc up0 _) hb) hb2⟩
  have HT0 := Lib.hid (HA.out.thin hth)
  have Hth := Lib.hid hth
  clear hth
  obtain ⟨o1, ho1⟩ : ∃ o, openI L k z [x] = o := ⟨_, rfl⟩
  obtain ⟨o2, ho2⟩ : ∃ o, openI L 0 z [x, y] = o := ⟨_, rfl⟩
  obtain ⟨b, hb0, hb1⟩ : ∃ b : Bool, (errI L ≠ 0 → b = false) ∧ (errI L = 0 → b = (!(inB 0 ((L.st.length : Int) - 1) x) || !(inB 0 ((c.length : Int) - 1) k) || !(inB 0 ((L.sn.length : Int) - 1) z))) := by
    by_cases he : errI L = 0
    · exact ⟨_, fun h => absurd he h, fun _ => rfl⟩
    · exact ⟨false, fun _ => rfl, fun h => absurd h he⟩
  have Hb := Lib.hid hb1
  have Hb0 := Lib.hid hb0
  have Hw := Lib.hid (show (if b = true then 2 else errI L) = o1 by
    by_cases he : errI L = 0
    · rw [hb1 he, ← open_one_parts Hcl.out he, ho1, he]
      have : o1 = 2 ∨ o1 = 0 := by
        rw [← ho1]
        unfold openI
        rw [if_neg (by simp [he])]
        split
        · exact .inl rfl
        · exact .inr rfl
      rcases this with h | h <;> rw [h] <;> rfl
    · rw [hb0 he, if_neg (by simp), ← ho1, bail he])
  have HRE := Lib.hid (show reachE L x k z = ((reachE L x k z).1, o1) by
    have h : (reachE L x k z).2 = o1 := by
      unfold reachE
      split
      · exact ho1
      · rename_i h; rw [← ho1]; simpa using (Classical.not_not.1 h).symm
    rw [← h])
  obtain ⟨mm, ff, hmf⟩ : ∃ mm ff, mirI L x y z = (mm, ff) := ⟨_, _, rfl⟩
  have HM := Lib.hid hmf
  have HO1 := Lib.hid ho1
  have HO2 := Lib.hid ho2
  clear hmf ho1 ho2 hb0 hb1
  go_enter Try.func5, Try.ntmps5
  go_wp2_with fail
  have BX := Lib.hid (Box.new (w := w) (t := 27) (cs := #[.slice A1 L.st.length cap1, .slice A2 L.rg.length cap2, .slice A3 c.length cap3, .slice A4 L.sn.length cap4]) rfl)
  have HB := Lib.hid (up_alloc (up0 (w := w)) (.cells #[.slice A1 L.st.length cap1, .slice A2 L.rg.length cap2, .slice A3 c.length cap3, .slice A4 L.sn.length cap4] 27))
  have HT := Lib.hid (HT0.out.kept HB.out)
  refine (Thin_any _ _ _ _ L c _ (HA.out.kept HB.out)).mono ?_
  rintro e y0 ⟨rfl, hb⟩
  rw [Hth.out]
  have HB := Lib.hid (up_later HB.out hb)
  have HT := Lib.hid (HT.out.kept hb)
  have BX := Lib.hid (BX.out.kept hb)
  clear hb
  have BB := BX.out
  have cB := fun i => BB.cell i
  go_wp2_with fail
  clear cB BB
  refine (Land_any _ _ _ _ L c _ HT.out).mono ?_
  rintro e ya ⟨a1, a2, a3, a4, ca, rfl, hl, hb⟩
  have Hl := Lib.hid hl
  clear hl
  have HB := Lib.hid (up_later HB.out hb)
  have HT := Lib.hid (HT.out.kept hb)
  have BX := Lib.hid (BX.out.kept hb)
  clear hb
  go_wp2_with fail
  have AA := Reach_any _ _ _ _ L _ x k z ya Hl.out
  rw [HRE.out] at AA
  refine AA.mono ?_
  rintro e yb ⟨u, rfl, hr, hb⟩
  obtain ⟨_, Ar, pr, rfl, _, _⟩ := hr.form
  have HRL := Lib.hid hr
  clear AA Hl hr
  have HB := Lib.hid (up_later HB.out hb)
  have HT := Lib.hid (HT.out.kept hb)
  have BX := Lib.hid (BX.out.kept hb)
  clear hb
  have BB := BX.out
  have cB := fun i => BB.cell i
  go_wp2_with fail
  clear cB BB
  refine (Land_any _ _ _ _ L c _ HT.out).mono ?_
  rintro e ya ⟨a1, a2, a3, a4, ca, rfl, hl, hb⟩
  have Hl := Lib.hid hl
  clear hl
  have HB := Lib.hid (up_later HB.out hb)
  have HT := Lib.hid (HT.out.kept hb)
  have BX := Lib.hid (BX.out.kept hb)
  have HRL := Lib.hid (HRL.out.kept hb)
  clear hb
  go_wp2_with fail
  have AA := Mirrors_any _ _ _ _ L _ x y z ya Hl.out
  rw [HM.out] at AA
  refine AA.mono ?_
  rintro e yb ⟨rfl, hb⟩
  clear AA Hl
  have HB := Lib.hid (up_later HB.out hb)
  have HT := Lib.hid (HT.out.kept hb)
  have BX := Lib.hid (BX.out.kept hb)
  have HRL := Lib.hid (HRL.out.kept hb)
  clear hb
  have BB := BX.out
  have cB := fun i => BB.cell i
  go_wp2_with fail
  clear cB BB
  refine (Lfault_any _ _ _ _ L c _ HT.out).mono ?_
  rintro e yc ⟨rfl, hb⟩
  have HB := Lib.hid (up_later HB.out hb)
  have HT := Lib.hid (HT.out.kept hb)
  have BX := Lib.hid (BX.out.kept hb)
  have HRL := Lib.hid (HRL.out.kept hb)
  clear hb
  have BB := BX.out
  have cB := fun i => BB.cell i
  go_upto_region 6 with fail
  go_cut [71] from 43 to 71 (fun s wx => s = .bool b ∧ wx = yc)
  case first =>
    by_cases he : errI L = 0
    · have e0 : (errI L == 0) = true := by simpa using he
      cases h1 : inB 0 ((L.st.length : Int) - 1) x with
      | false =>
        have hbb := Hb.out he
        rw [h1] at hbb
        have HBB := Lib.hid hbb
        clear hbb he
        go_wp2_with (go_at_call 32; refine (In_any _ _ _ _).mono ?_; rintro e w1 ⟨rfl, rfl⟩)
        go_meet
        exact ⟨by rw [HBB.out]; rfl, rfl⟩
      | true =>
        cases h2 : inB 0 ((c.length : Int) - 1) k with
        | false =>
          have hbb := Hb.out he
          rw [h1, h2] at hbb
          have HBB := Lib.hid hbb
          clear hbb he
          go_wp2_with (go_at_call 32; refine (In_any _ _ _ _).mono ?_; rintro e w1 ⟨rfl, rfl⟩)
          go_meet
          exact ⟨by rw [HBB.out]; rfl, rfl⟩
        | true =>
          cases h3 : inB 0 ((L.sn.length : Int) - 1) z with
          | false =>
            have hbb := Hb.out he
            rw [h1, h2, h3] at hbb
            have HBB := Lib.hid hbb
            clear hbb he
            go_wp2_with (go_at_call 32; refine (In_any _ _ _ _).mono ?_; rintro e w1 ⟨rfl, rfl⟩)
            go_meet
            exact ⟨by rw [HBB.out]; rfl, rfl⟩
          | true =>
            have hbb := Hb.out he
            rw [h1, h2, h3] at hbb
            have HBB := Lib.hid hbb
            clear hbb he
            go_wp2_with (go_at_call 32; refine (In_any _ _ _ _).mono ?_; rintro e w1 ⟨rfl, rfl⟩)
            go_meet
            exact ⟨by rw [HBB.out]; rfl, rfl⟩
    · have e0 : (errI L == 0) = false := by simpa using he
      have HBB := Lib.hid (Hb0.out he)
      clear he
      go_wp2_with fail
      go_meet
      exact ⟨by rw [HBB.out], rfl⟩
  case rest =>
    obtain ⟨rfl, rfl⟩ := hcut
    clear cB BB
    go_upto_if 71 with fail
    go_cut [15] (fun s wx => s = .int .i64 o1 ∧ wx = wc)
    case first =>
      cases b with
      | true =>
        have HW := Lib.hid (show o1 = 2 from Hw.out.symm)
        go_wp2_with fail
        go_meet
        exact ⟨by rw [HW.out], rfl⟩
      | false =>
        have HW := Lib.hid (show errI L = o1 from Hw.out)
        go_wp2_with fail
        go_meet
        exact ⟨by rw [← HW.out], rfl⟩
    case rest =>
      obtain ⟨rfl, rfl⟩ := hcut
      clear Hb Hb0 Hw
      by_cases h1 : o1 = 0
      · subst h1
        obtain ⟨he, ⟨hk0, hk1⟩, ⟨hh0, hh1⟩, hst⟩ := open_ok HO1.out
        obtain ⟨hi0, hi1⟩ := hst x (by simp)
        obtain ⟨i, hi⟩ := Int.eq_ofNat_of_zero_le hi0
        obtain ⟨kk, hkk⟩ := Int.eq_ofNat_of_zero_le hk0
        obtain ⟨hh, hhh⟩ := Int.eq_ofNat_of_zero_le hh0
        have hin : i < L.st.length := by omega
        have hkn : kk < L.cs.length := by omega
        have hhn : hh < L.sn.length := by omega
        subst hi
        subst hkk
        subst hhh
        have Hok := Lib.hid (land_ok he)
        have hn6 := (land_ok he).len.2.1
        obtain ⟨ii0, hii, hz0, hz1, hz2⟩ := info_parts int_info
        have HRU := Lib.hid (show (reachE L i kk hh).1 = uptoF (fun q => (q : Int) != (i : Int) && freeB L i q kk hh) L.st.length by
          unfold reachE
          rw [if_neg (by rw [HO1.out]; simp)])
        have hsz := HT.out
        clear he hk0 hk1 hh0 hh1 hst hi0 hi1 hsz
        go_wp2_with fail
        go_loopw [16, 17] (fun v q wr => ∃ m : Nat, m ≤ L.st.length ∧ q = .int .i64 m ∧ wr.ownsRow wc.heap.size 3 1 v (uptoF (fun q => (q : Int) != (i : Int) && freeB L i q kk hh) m).length ((uptoF (fun q => (q : Int) != (i : Int) && freeB L i q kk hh) m).map iv) ∧ Hid (Below wc.heap.size wc wr)) (fun _ q _ => L.st.length - (intOf q).toNat)
        case atStart => exact ⟨0, by omega, rfl, World.ownsRow_nil _ _ _ _, up0⟩
        case round =>
          obtain ⟨m, hm, rfl, hown, hb⟩ := hrel
          have HOW := Lib.hid hown
          have m0 : (0 : Int) ≤ (m : Int) := by omega
          have BB := BX.out.kept hb.out
          have cB := fun i => BB.cell i
          clear hown
          by_cases hlt : m < L.st.length
          · have m1 : (m : Int) < (L.st.length : Int) := by omega
            have hlen := uptoF_length (p := fun q => (q : Int) != (i : Int) && freeB L i q kk hh) (k := m)
            go_wp2_with fail
            clear cB BB
            refine (RCan_any _ _ _ _ L c i m kk hh _ (HT.out.kept hb.out) Hok.out hin hlt hkn hhn).mono ?_
            rintro e w1 ⟨rfl, hb1⟩
            have hown := own_below HOW.out hb1
            have HOW := Lib.hid hown
            have hb2 := Lib.hid (up_later hb.out hb1)
            have hsz := hb2.out.size
            clear hb1 hb
            cases hp : ((m : Int) != (i : Int) && freeB L i m kk hh) with
            | true =>
              have Hu := Lib.hid (uptoF_yes (p := fun q : Nat => (q : Int) != (i : Int) && freeB L i q kk hh) hp)
              clear hp
              go_wp2_with (at_builtin; refine wpList_append_own_at _ rfl _ _ 41 rfl wc.heap.size 3 ii0 (.int .i64 0) 1 8 Try.underlying41 hii hz0 hz1 hz2 rfl (by decide) _ _ _ rfl (hown.alloc _) ⟨w1.heap.size, 0, none⟩ 1 1 [.int .i64 m] rfl rfl (cell_one_new _ _ _) (by simp [Value.oneCell']) (by unfold maxLen; omega) (by omega) (by simp; omega) ?_; intro v' w2 hown' hgrow _ hat)
              refine ⟨⟨m + 1, by omega, by go_num, ?_, (up_alloc hb2.out (.cells #[iv m] 3)).grown hgrow (by simp; omega) fun g e => (HOW.out.lt g e).1⟩, by simp [intOf]; omega⟩
              rw [Hu.out]
              simpa using hown'
            | false =>
              have Hu := Lib.hid (uptoF_no (p := fun q : Nat => (q : Int) != (i : Int) && freeB L i q kk hh) hp)
              clear hp
              go_wp2_with fail
              exact ⟨⟨m + 1, by omega, by go_num, by rw [Hu.out]; exact HOW.out, hb2.out⟩, by simp [intOf]; omega⟩
          · obtain rfl : m = L.st.length := by omega
            have hlen := uptoF_length (p := fun q => (q : Int) != (i : Int) && freeB L i q kk hh) (k := L.st.length)
            have hr2 := RowsAt.of_own HOW.out (by omega)
            rw [← HRU.out] at hr2
            obtain ⟨_, Ad, pd, hdu, _, _⟩ := hr2.form
            subst hdu
            have HR2 := Lib.hid hr2
            have eR := Lib.hid (beq_self_eq_true (reachE L i kk hh).1)
            clear hr2 HOW
            go_wp2_with fail
            clear cB BB
            refine (ints_any _ _ _ _ _ (HRL.out.kept hb.out) HR2.out).mono ?_
            rintro e w3 ⟨rfl, hb3⟩
            rw [eR.out]
            have hb := (hb.out).trans (hb3.mono hb.out.size)
            clear hb3
            have HB := Lib.hid (up_later HB.out hb)
            have HT := Lib.hid (HT.out.kept hb)
            have BX := Lib.hid (BX.out.kept hb)
            clear hb
            have BB := BX.out
            have cB := fun i => BB.cell i
            go_wp2_with fail
            clear cB BB
            by_cases h2 : o2 = 0
            · subst h2
              obtain ⟨he, _, ⟨hh0', hh1'⟩, hst⟩ := open_ok HO2.out
              obtain ⟨hi0', hi1'⟩ := hst i (by simp)
              obtain ⟨hj0', hj1'⟩ := hst y (by simp)
              obtain ⟨i', hi'⟩ := Int.eq_ofNat_of_zero_le hi0'
              obtain ⟨j', hj'⟩ := Int.eq_ofNat_of_zero_le hj0'
              obtain ⟨h', hh'⟩ := Int.eq_ofNat_of_zero_le hh0'
              have hin' : i' < L.st.length := by omega
              have hjn' : j' < L.st.length := by omega
              have hhn' : h' < L.sn.length := by omega
              have Hok' := Lib.hid (land_ok he)
              obtain ⟨q, hq⟩ : ∃ s, L.sn[h']? = some s := ⟨_, List.getElem?_eq_getElem hhn'⟩
              have hm : (mm, ff) = if q.u ≤ 0 then ((0 : Int), (7 : Int)) else if behindL L i y hh then (2, 0) else (1, 0) := by
                rw [← HM.out]
                unfold mirI
                rw [if_neg (by rw [HO2.out]; simp), hh']
                simp [snAt, hq]
              have HBE := Lib.hid (show behindL L i' j' h' = behindL L i y hh by rw [hi', hj', hh'])
              have Hi' := Lib.hid hi'
              have Hj' := Lib.hid hj'
              have Hh' := Lib.hid hh'
              have Hq := Lib.hid hq
              have HO3 := Lib.hid (show openI L 0 h' [(i' : Int), (j' : Int)] = 0 by rw [← hi', ← hj', ← hh']; exact HO2.out)
              have h0' : (0 : Int) ≤ (h' : Int) := by omega
              have h1' : (h' : Int) < (L.sn.length : Int) := by omega
              clear he hst hi0' hi1' hj0' hj1' hh0' hh1' hi' hj' hh' HO2
              obtain ⟨b4, f4, hA4, -, -⟩ := HT.out.sn.at rfl hq
              have HA4 := Lib.hid hA4
              clear hq hA4
              by_cases hu : q.u ≤ 0
              · rw [if_pos hu] at hm
                obtain ⟨rfl, rfl⟩ := Prod.mk.inj hm
                clear hm
                cases hbe : behindL L i y hh with
                | true =>
                  rw [hbe] at HBE
                  clear hbe
                  rw [Hi'.out, Hj'.out, Hh'.out]
                  refine (Lasked_any _ _ _ _ L c i' j' 0 h' _ HT.out).mono ?_
                  rintro e w4 ⟨rfl, hb⟩
                  rw [HO3.out]
                  have HB := Lib.hid (up_later HB.out hb)
                  have HT := Lib.hid (HT.out.kept hb)
                  have BX := Lib.hid (BX.out.kept hb)
                  clear hb
                  have BB := BX.out
                  have cB := fun i => BB.cell i
                  go_wp2_with fail
                  clear cB BB
                  refine (RBehind_any _ _ _ _ L c i' j' h' _ HT.out Hok'.out hin' hjn' hhn').mono ?_
                  rintro e w5 ⟨rfl, hb⟩
                  rw [HBE.out]
                  have HB := Lib.hid (up_later HB.out hb)
                  have HT := Lib.hid (HT.out.kept hb)
                  have BX := Lib.hid (BX.out.kept hb)
                  clear hb
                  have hsn := HT.out.sn
                  rw [HA4.out] at hsn
                  have qu : w5.cell? ⟨b4, f4 + h' * 3 + 2, none⟩ = some (.int .i64 q.u) := hsn.cellAt Hq.out (j := 2) rfl
                  clear hsn
                  have hA4 := HA4.out
                  have BB := BX.out
                  have cB := fun i => BB.cell i
                  go_wp2_with fail
                  clear cB BB
                  clear hA4
                  refine (awake_any _).mono ?_
                  rintro e y9 ⟨rfl, hb⟩
                  go_wp2_with fail
                  go_ret
                  exact ⟨by simp [go_sem], up_later HB.out hb⟩
                | false =>
                  rw [hbe] at HBE
                  clear hbe
                  rw [Hi'.out, Hj'.out, Hh'.out]
                  refine (Lasked_any _ _ _ _ L c i' j' 0 h' _ HT.out).mono ?_
                  rintro e w4 ⟨rfl, hb⟩
                  rw [HO3.out]
                  have HB := Lib.hid (up_later HB.out hb)
                  have HT := Lib.hid (HT.out.kept hb)
                  have BX := Lib.hid (BX.out.kept hb)
                  clear hb
                  have BB := BX.out
                  have cB := fun i => BB.cell i
                  go_wp2_with fail
                  clear cB BB
                  refine (RBehind_any _ _ _ _ L c i' j' h' _ HT.out Hok'.out hin' hjn' hhn').mono ?_
                  rintro e w5 ⟨rfl, hb⟩
                  rw [HBE.out]
                  have HB := Lib.hid (up_later HB.out hb)
                  have HT := Lib.hid (HT.out.kept hb)
                  have BX := Lib.hid (BX.out.kept hb)
                  clear hb
                  have hsn := HT.out.sn
                  rw [HA4.out] at hsn
                  have qu : w5.cell? ⟨b4, f4 + h' * 3 + 2, none⟩ = some (.int .i64 q.u) := hsn.cellAt Hq.out (j := 2) rfl
                  clear hsn
                  have hA4 := HA4.out
                  have BB := BX.out
                  have cB := fun i => BB.cell i
                  go_wp2_with fail
                  clear cB BB
                  clear hA4
                  refine (awake_any _).mono ?_
                  rintro e y9 ⟨rfl, hb⟩
                  go_wp2_with fail
                  go_ret
                  exact ⟨by simp [go_sem], up_later HB.out hb⟩
              · rw [if_neg hu] at hm
                cases hbe : behindL L i y hh with
                | true =>
                  rw [hbe, if_pos rfl] at hm
                  obtain ⟨rfl, rfl⟩ := Prod.mk.inj hm
                  rw [hbe] at HBE
                  clear hm hbe
                  rw [Hi'.out, Hj'.out, Hh'.out]
                  refine (Lasked_any _ _ _ _ L c i' j' 0 h' _ HT.out).mono ?_
                  rintro e w4 ⟨rfl, hb⟩
                  rw [HO3.out]
                  have HB := Lib.hid (up_later HB.out hb)
                  have HT := Lib.hid (HT.out.kept hb)
                  have BX := Lib.hid (BX.out.kept hb)
                  clear hb
                  have BB := BX.out
                  have cB := fun i => BB.cell i
                  go_wp2_with fail
                  clear cB BB
                  refine (RBehind_any _ _ _ _ L c i' j' h' _ HT.out Hok'.out hin' hjn' hhn').mono ?_
                  rintro e w5 ⟨rfl, hb⟩
                  rw [HBE.out]
                  have HB := Lib.hid (up_later HB.out hb)
                  have HT := Lib.hid (HT.out.kept hb)
                  have BX := Lib.hid (BX.out.kept hb)
                  clear hb
                  have hsn := HT.out.sn
                  rw [HA4.out] at hsn
                  have qu : w5.cell? ⟨b4, f4 + h' * 3 + 2, none⟩ = some (.int .i64 q.u) := hsn.cellAt Hq.out (j := 2) rfl
                  clear hsn
                  have hA4 := HA4.out
                  have BB := BX.out
                  have cB := fun i => BB.cell i
                  go_wp2_with fail
                  clear cB BB
                  clear hA4
                  refine (awake_any _).mono ?_
                  rintro e y9 ⟨rfl, hb⟩
                  go_wp2_with fail
                  go_ret
                  exact ⟨by simp [go_sem], up_later HB.out hb⟩
                | false =>
                  rw [hbe, if_neg (by simp)] at hm
                  obtain ⟨rfl, rfl⟩ := Prod.mk.inj hm
                  rw [hbe] at HBE
                  clear hm hbe
                  rw [Hi'.out, Hj'.out, Hh'.out]
                  refine (Lasked_any _ _ _ _ L c i' j' 0 h' _ HT.out).mono ?_
                  rintro e w4 ⟨rfl, hb⟩
                  rw [HO3.out]
                  have HB := Lib.hid (up_later HB.out hb)
                  have HT := Lib.hid (HT.out.kept hb)
                  have BX := Lib.hid (BX.out.kept hb)
                  clear hb
                  have BB := BX.out
                  have cB := fun i => BB.cell i
                  go_wp2_with fail
                  clear cB BB
                  refine (RBehind_any _ _ _ _ L c i' j' h' _ HT.out Hok'.out hin' hjn' hhn').mono ?_
                  rintro e w5 ⟨rfl, hb⟩
                  rw [HBE.out]
                  have HB := Lib.hid (up_later HB.out hb)
                  have HT := Lib.hid (HT.out.kept hb)
                  have BX := Lib.hid (BX.out.kept hb)
                  clear hb
                  have hsn := HT.out.sn
                  rw [HA4.out] at hsn
                  have qu : w5.cell? ⟨b4, f4 + h' * 3 + 2, none⟩ = some (.int .i64 q.u) := hsn.cellAt Hq.out (j := 2) rfl
                  clear hsn
                  have hA4 := HA4.out
                  have BB := BX.out
                  have cB := fun i => BB.cell i
                  go_wp2_with fail
                  clear cB BB
                  clear hA4
                  refine (awake_any _).mono ?_
                  rintro e y9 ⟨rfl, hb⟩
                  go_wp2_with fail
                  go_ret
                  exact ⟨by simp [go_sem], up_later HB.out hb⟩
            ·
              have hm : (mm, ff) = (0, o2) := by
                rw [← HM.out]
                unfold mirI
                rw [if_pos (by rw [HO2.out]; exact h2), HO2.out]
              obtain ⟨rfl, rfl⟩ := Prod.mk.inj hm
              have n2 : (ff == 0) = false := by simpa using h2
              have o2o : (ff == ff) = true := by simp
              clear h2 hm
              refine (Lasked_any _ _ _ _ L c i y 0 hh _ HT.out).mono ?_
              rintro e w4 ⟨rfl, hb⟩
              rw [HO2.out]
              have HB := Lib.hid (up_later HB.out hb)
              have HT := Lib.hid (HT.out.kept hb)
              have BX := Lib.hid (BX.out.kept hb)
              clear hb
              have BB := BX.out
              have cB := fun i => BB.cell i
              go_wp2_with fail
              clear cB BB
              refine (awake_any _).mono ?_
              rintro e y9 ⟨rfl, hb⟩
              go_wp2_with fail
              go_ret
              exact ⟨by simp [go_sem], up_later HB.out hb⟩
      · have hre : (reachE L x k z).1 = [] := by
          unfold reachE
          rw [if_pos (by rw [HO1.out]; exact h1)]
        have eR := Lib.hid (show ((reachE L x k z).1 == ([] : List Int)) = true by rw [hre]; rfl)
        have n1 : (o1 == 0) = false := by simpa using h1
        have oo : (o1 != o1) = false := by simp
        clear hre h1
        go_wp2_with fail
        go_loopw [16, 17] (fun v q wr => v = .slice none 0 0 ∧ q = .int .i64 0 ∧ wr = wc) (fun _ _ _ => 0)
        case atStart => exact ⟨rfl, rfl, rfl⟩
        case round =>
          obtain ⟨rfl, rfl, rfl⟩ := hrel
          by_cases hn : 0 < L.st.length
          · have hn' : (0 : Int) < (L.st.length : Int) := by omega
            have BB := BX.out
            have cB := fun i => BB.cell i
            go_wp2_with fail
            clear cB BB
            refine (ints_any _ _ _ _ _ HRL.out (RowsAt.nil _)).mono ?_
            rintro e w3 ⟨rfl, hb⟩
            rw [eR.out]
            have HB := Lib.hid (up_later HB.out hb)
            have HT := Lib.hid (HT.out.kept hb)
            have BX := Lib.hid (BX.out.kept hb)
            clear hb
            have BB := BX.out
            have cB := fun i => BB.cell i
            go_wp2_with fail
            clear cB BB
            by_cases h2 : o2 = 0
            · subst h2
              obtain ⟨he, _, ⟨hh0', hh1'⟩, hst⟩ := open_ok HO2.out
              obtain ⟨hi0', hi1'⟩ := hst x (by simp)
              obtain ⟨hj0', hj1'⟩ := hst y (by simp)
              obtain ⟨i', hi'⟩ := Int.eq_ofNat_of_zero_le hi0'
              obtain ⟨j', hj'⟩ := Int.eq_ofNat_of_zero_le hj0'
              obtain ⟨h', hh'⟩ := Int.eq_ofNat_of_zero_le hh0'
              have hin' : i' < L.st.length := by omega
              have hjn' : j' < L.st.length := by omega
              have hhn' : h' < L.sn.length := by omega
              have Hok' := Lib.hid (land_ok he)
              obtain ⟨q, hq⟩ : ∃ s, L.sn[h']? = some s := ⟨_, List.getElem?_eq_getElem hhn'⟩
              have hm : (mm, ff) = if q.u ≤ 0 then ((0 : Int), (7 : Int)) else if behindL L x y z then (2, 0) else (1, 0) := by
                rw [← HM.out]
                unfold mirI
                rw [if_neg (by rw [HO2.out]; simp), hh']
                simp [snAt, hq]
              have HBE := Lib.hid (show behindL L i' j' h' = behindL L x y z by rw [hi', hj', hh'])
              have Hi' := Lib.hid hi'
              have Hj' := Lib.hid hj'
              have Hh' := Lib.hid hh'
              have Hq := Lib.hid hq
              have HO3 := Lib.hid (show openI L 0 h' [(i' : Int), (j' : Int)] = 0 by rw [← hi', ← hj', ← hh']; exact HO2.out)
              have h0' : (0 : Int) ≤ (h' : Int) := by omega
              have h1' : (h' : Int) < (L.sn.length : Int) := by omega
              clear he hst hi0' hi1' hj0' hj1' hh0' hh1' hi' hj' hh' HO2
              obtain ⟨b4, f4, hA4, -, -⟩ := HT.out.sn.at rfl hq
              have HA4 := Lib.hid hA4
              clear hq hA4
              by_cases hu : q.u ≤ 0
              · rw [if_pos hu] at hm
                obtain ⟨rfl, rfl⟩ := Prod.mk.inj hm
                clear hm
                cases hbe : behindL L x y z with
                | true =>
                  rw [hbe] at HBE
                  clear hbe
                  rw [Hi'.out, Hj'.out, Hh'.out]
                  refine (Lasked_any _ _ _ _ L c i' j' 0 h' _ HT.out).mono ?_
                  rintro e w4 ⟨rfl, hb⟩
                  rw [HO3.out]
                  have HB := Lib.hid (up_later HB.out hb)
                  have HT := Lib.hid (HT.out.kept hb)
                  have BX := Lib.hid (BX.out.kept hb)
                  clear hb
                  have BB := BX.out
                  have cB := fun i => BB.cell i
                  go_wp2_with fail
                  clear cB BB
                  refine (RBehind_any _ _ _ _ L c i' j' h' _ HT.out Hok'.out hin' hjn' hhn').mono ?_
                  rintro e w5 ⟨rfl, hb⟩
                  rw [HBE.out]
                  have HB := Lib.hid (up_later HB.out hb)
                  have HT := Lib.hid (HT.out.kept hb)
                  have BX := Lib.hid (BX.out.kept hb)
                  clear hb
                  have hsn := HT.out.sn
                  rw [HA4.out] at hsn
                  have qu : w5.cell? ⟨b4, f4 + h' * 3 + 2, none⟩ = some (.int .i64 q.u) := hsn.cellAt Hq.out (j := 2) rfl
                  clear hsn
                  have hA4 := HA4.out
                  have BB := BX.out
                  have cB := fun i => BB.cell i
                  go_wp2_with fail
                  clear cB BB
                  clear hA4
                  refine (awake_any _).mono ?_
                  rintro e y9 ⟨rfl, hb⟩
                  go_wp2_with fail
                  go_ret
                  exact ⟨by simp [go_sem], up_later HB.out hb⟩
                | false =>
                  rw [hbe] at HBE
                  clear hbe
                  rw [Hi'.out, Hj'.out, Hh'.out]
                  refine (Lasked_any _ _ _ _ L c i' j' 0 h' _ HT.out).mono ?_
                  rintro e w4 ⟨rfl, hb⟩
                  rw [HO3.out]
                  have HB := Lib.hid (up_later HB.out hb)
                  have HT := Lib.hid (HT.out.kept hb)
                  have BX := Lib.hid (BX.out.kept hb)
                  clear hb
                  have BB := BX.out
                  have cB := fun i => BB.cell i
                  go_wp2_with fail
                  clear cB BB
                  refine (RBehind_any _ _ _ _ L c i' j' h' _ HT.out Hok'.out hin' hjn' hhn').mono ?_
                  rintro e w5 ⟨rfl, hb⟩
                  rw [HBE.out]
                  have HB := Lib.hid (up_later HB.out hb)
                  have HT := Lib.hid (HT.out.kept hb)
                  have BX := Lib.hid (BX.out.kept hb)
                  clear hb
                  have hsn := HT.out.sn
                  rw [HA4.out] at hsn
                  have qu : w5.cell? ⟨b4, f4 + h' * 3 + 2, none⟩ = some (.int .i64 q.u) := hsn.cellAt Hq.out (j := 2) rfl
                  clear hsn
                  have hA4 := HA4.out
                  have BB := BX.out
                  have cB := fun i => BB.cell i
                  go_wp2_with fail
                  clear cB BB
                  clear hA4
                  refine (awake_any _).mono ?_
                  rintro e y9 ⟨rfl, hb⟩
                  go_wp2_with fail
                  go_ret
                  exact ⟨by simp [go_sem], up_later HB.out hb⟩
              · rw [if_neg hu] at hm
                cases hbe : behindL L x y z with
                | true =>
                  rw [hbe, if_pos rfl] at hm
                  obtain ⟨rfl, rfl⟩ := Prod.mk.inj hm
                  rw [hbe] at HBE
                  clear hm hbe
                  rw [Hi'.out, Hj'.out, Hh'.out]
                  refine (Lasked_any _ _ _ _ L c i' j' 0 h' _ HT.out).mono ?_
                  rintro e w4 ⟨rfl, hb⟩
                  rw [HO3.out]
                  have HB := Lib.hid (up_later HB.out hb)
                  have HT := Lib.hid (HT.out.kept hb)
                  have BX := Lib.hid (BX.out.kept hb)
                  clear hb
                  have BB := BX.out
                  have cB := fun i => BB.cell i
                  go_wp2_with fail
                  clear cB BB
                  refine (RBehind_any _ _ _ _ L c i' j' h' _ HT.out Hok'.out hin' hjn' hhn').mono ?_
                  rintro e w5 ⟨rfl, hb⟩
                  rw [HBE.out]
                  have HB := Lib.hid (up_later HB.out hb)
                  have HT := Lib.hid (HT.out.kept hb)
                  have BX := Lib.hid (BX.out.kept hb)
                  clear hb
                  have hsn := HT.out.sn
                  rw [HA4.out] at hsn
                  have qu : w5.cell? ⟨b4, f4 + h' * 3 + 2, none⟩ = some (.int .i64 q.u) := hsn.cellAt Hq.out (j := 2) rfl
                  clear hsn
                  have hA4 := HA4.out
                  have BB := BX.out
                  have cB := fun i => BB.cell i
                  go_wp2_with fail
                  clear cB BB
                  clear hA4
                  refine (awake_any _).mono ?_
                  rintro e y9 ⟨rfl, hb⟩
                  go_wp2_with fail
                  go_ret
                  exact ⟨by simp [go_sem], up_later HB.out hb⟩
                | false =>
                  rw [hbe, if_neg (by simp)] at hm
                  obtain ⟨rfl, rfl⟩ := Prod.mk.inj hm
                  rw [hbe] at HBE
                  clear hm hbe
                  rw [Hi'.out, Hj'.out, Hh'.out]
                  refine (Lasked_any _ _ _ _ L c i' j' 0 h' _ HT.out).mono ?_
                  rintro e w4 ⟨rfl, hb⟩
                  rw [HO3.out]
                  have HB := Lib.hid (up_later HB.out hb)
                  have HT := Lib.hid (HT.out.kept hb)
                  have BX := Lib.hid (BX.out.kept hb)
                  clear hb
                  have BB := BX.out
                  have cB := fun i => BB.cell i
                  go_wp2_with fail
                  clear cB BB
                  refine (RBehind_any _ _ _ _ L c i' j' h' _ HT.out Hok'.out hin' hjn' hhn').mono ?_
                  rintro e w5 ⟨rfl, hb⟩
                  rw [HBE.out]
                  have HB := Lib.hid (up_later HB.out hb)
                  have HT := Lib.hid (HT.out.kept hb)
                  have BX := Lib.hid (BX.out.kept hb)
                  clear hb
                  have hsn := HT.out.sn
                  rw [HA4.out] at hsn
                  have qu : w5.cell? ⟨b4, f4 + h' * 3 + 2, none⟩ = some (.int .i64 q.u) := hsn.cellAt Hq.out (j := 2) rfl
                  clear hsn
                  have hA4 := HA4.out
                  have BB := BX.out
                  have cB := fun i => BB.cell i
                  go_wp2_with fail
                  clear cB BB
                  clear hA4
                  refine (awake_any _).mono ?_
                  rintro e y9 ⟨rfl, hb⟩
                  go_wp2_with fail
                  go_ret
                  exact ⟨by simp [go_sem], up_later HB.out hb⟩
            ·
              have hm : (mm, ff) = (0, o2) := by
                rw [← HM.out]
                unfold mirI
                rw [if_pos (by rw [HO2.out]; exact h2), HO2.out]
              obtain ⟨rfl, rfl⟩ := Prod.mk.inj hm
              have n2 : (ff == 0) = false := by simpa using h2
              have o2o : (ff == ff) = true := by simp
              clear h2 hm
              refine (Lasked_any _ _ _ _ L c x y 0 z _ HT.out).mono ?_
              rintro e w4 ⟨rfl, hb⟩
              rw [HO2.out]
              have HB := Lib.hid (up_later HB.out hb)
              have HT := Lib.hid (HT.out.kept hb)
              have BX := Lib.hid (BX.out.kept hb)
              clear hb
              have BB := BX.out
              have cB := fun i => BB.cell i
              go_wp2_with fail
              clear cB BB
              refine (awake_any _).mono ?_
              rintro e y9 ⟨rfl, hb⟩
              go_wp2_with fail
              go_ret
              exact ⟨by simp [go_sem], up_later HB.out hb⟩
          · have hn' : ¬ (0 : Int) < (L.st.length : Int) := by omega
            have BB := BX.out
            have cB := fun i => BB.cell i
            go_wp2_with fail
            clear cB BB
            refine (ints_any _ _ _ _ _ HRL.out (RowsAt.nil _)).mono ?_
            rintro e w3 ⟨rfl, hb⟩
            rw [eR.out]
            have HB := Lib.hid (up_later HB.out hb)
            have HT := Lib.hid (HT.out.kept hb)
            have BX := Lib.hid (BX.out.kept hb)
            clear hb
            have BB := BX.out
            have cB := fun i => BB.cell i
            go_wp2_with fail
            clear cB BB
            by_cases h2 : o2 = 0
            · exfalso
              obtain ⟨_, _, _, hst⟩ := open_ok (HO2.out.trans h2)
              have := hst x (by simp)
              omega
            ·
              have hm : (mm, ff) = (0, o2) := by
                rw [← HM.out]
                unfold mirI
                rw [if_pos (by rw [HO2.out]; exact h2), HO2.out]
              obtain ⟨rfl, rfl⟩ := Prod.mk.inj hm
              have n2 : (ff == 0) = false := by simpa using h2
              have o2o : (ff == ff) = true := by simp
              clear h2 hm
              refine (Lasked_any _ _ _ _ L c x y 0 z _ HT.out).mono ?_
              rintro e w4 ⟨rfl, hb⟩
              rw [HO2.out]
              have HB := Lib.hid (up_later HB.out hb)
              have HT := Lib.hid (HT.out.kept hb)
              have BX := Lib.hid (BX.out.kept hb)
              clear hb
              have BB := BX.out
              have cB := fun i => BB.cell i
              go_wp2_with fail
              clear cB BB
              refine (awake_any _).mono ?_
              rintro e y9 ⟨rfl, hb⟩
              go_wp2_with fail
              go_ret
              exact ⟨by simp [go_sem], up_later HB.out hb⟩

end Go.Proofs.Ytlnagjdokfkjoaa

namespace Go.Proofs.Ytlnagjdokfkjoaa
open Go.ChangeShapes Go.WideShapes Go.ChangeAt Go.RowKit

theorem rec3 : Try.prog.readableRec 3 = true ∧ 3 < Try.prog.types.size := ⟨by kernel_rfl, by have h : decide (3 < Try.prog.types.size) = true := (by kernel_rfl); exact of_decide_eq_true h⟩
set_option maxRecDepth 100000 in
theorem hillReaches_lifted (os : Os) (started : os.Started) (H : Type) (enc : TypeId × Value → H) :
    ReturnsInHanded {} Try.checked os 5 .any (Rows.hillReachesSpec.pre6 enc Try.prog Try.f5 Rows.hillReachesRow.domain false) (Rows.hillReachesSpec.post enc Try.prog Try.f5 false true false false) := by
  refine returnsInHanded_of_change (C := Try.checked) own_knob started (by kernel_rfl) Try.func5
    (ChangeSpec.witness6 (enc := enc) (C := Try.checked) false ⟨#[], #[.agg #[.slice Option.none 0 0, .slice Option.none 0 0, .slice Option.none 0 0, .slice Option.none 0 0], .int .i64 0, .int .i64 0, .int .i64 0, .int .i64 0], []⟩ 8 (by kernel_rfl) (by kernel_rfl) (by kernel_rfl) (by kernel_rfl)) ?_
  intro W base args ds gs before hval0 hW hcnd _
  have hval : ∀ (j : Nat) t v, Try.f5.params[j]? = some t → args[j]? = some v → Value.okWide Try.prog W .any base t v := hval0
  have hW' := hW
  obtain ⟨p, q, hA0, hV, rfl, hfz, hnd⟩ := hW
  have hA : DataW.TrodAll enc Try.prog W 0 (fun _ => true) true Try.f5.params.toList args.toList ds p := hA0
  rw [Try.params5] at hA hval
  have hlt : ∀ x ∈ p, x.block < W.heap.size := fun x hx => hW'.lt x (List.mem_append_left _ hx)
  have hAk := hA
  obtain ⟨v0, vs0, d0, ds0, p0, q0, hargs, rfl, rfl, h0, r0⟩ := trodAll_cons hA
  obtain ⟨v1, vs1, d1, ds1, p1, q1, rfl, rfl, rfl, h1, r1⟩ := trodAll_cons r0
  obtain ⟨v2, vs2, d2, ds2, p2, q2, rfl, rfl, rfl, h2, r2⟩ := trodAll_cons r1
  obtain ⟨v3, vs3, d3, ds3, p3, q3, rfl, rfl, rfl, h3, r3⟩ := trodAll_cons r2
  obtain ⟨v4, vs4, d4, ds4, p4, q4, rfl, rfl, rfl, h4, r4⟩ := trodAll_cons r3
  obtain ⟨rfl, rfl, rfl⟩ := trodAll_nil r4
  obtain rfl : args = #[v0, v1, v2, v3, v4] := by cases args; simp_all
  obtain ⟨rfl, rfl⟩ := trodVars_none hV
  obtain ⟨a1, rfl, rfl, rfl, _⟩ := open_int Try.underlying3 (hval 1 3 v1 rfl rfl) h1
  obtain ⟨a2, rfl, rfl, rfl, _⟩ := open_int Try.underlying3 (hval 2 3 v2 rfl rfl) h2
  obtain ⟨a3, rfl, rfl, rfl, _⟩ := open_int Try.underlying3 (hval 3 3 v3 rfl rfl) h3
  obtain ⟨a4, rfl, rfl, rfl, _⟩ := open_int Try.underlying3 (hval 4 3 v4 rfl rfl) h4
  obtain ⟨cs, rfl, _⟩ := okWide_struct und27 (hval 0 27 v0 rfl rfl)
  obtain ⟨fuel, h0⟩ := h0
  obtain ⟨u1, u2, u3, u4, L, c, hcs, hL⟩ := open_land h0
  obtain rfl : cs = #[u1, u2, u3, u4] := by
    have h : cs.toList = [u1, u2, u3, u4] := hcs
    cases cs
    simp at h
    rw [h]
  clear hA0 hval0 hval hA
  simp only [List.append_nil] at hW'
  simp only [List.append_nil] at hAk hlt
  refine (reaches_law u1 u2 u3 u4 L c a1 a2 a3 a4 W hL).mono fun e W' ⟨he, hg⟩ => ?_
  subst he
  refine ⟨_, rfl, post_below (pv := []) hW' hg (fun _ _ _ => (trodAll_cons_mk (shut_bool Try.underlying4 _) trodAll_mk0)) (fun sp hsp => ?_) (fun _ _ => rfl) (List.append_nil _).symm
    (ok_one (by kernel_rfl) rfl (okWide_bool_mk Try.underlying4 _))⟩
  rw [Try.params5]
  refine args_stay laid_out hg (fun t ht => ?_) hAk hlt sp (fun x hx => hsp x (by first | exact hx | simpa using hx))
  simp only [List.mem_cons, List.not_mem_nil, or_false] at ht
  rcases ht with rfl | rfl | rfl | rfl | rfl
  · exact rec27
  · exact rec3
  · exact rec3
  · exact rec3
  · exact rec3

theorem hillReaches_over : Rows.hillReachesRow.holds Try.pinned (OpenSpec.ofChange Rows.hillReachesSpec) :=
  OpenClaim.holds_of_wide 5 Try.f5 rfl rfl rfl rfl rfl rfl rfl ⟨rfl, rfl, rfl, rfl, rfl⟩ rfl rfl rfl rfl rfl (by kernel_rfl) Try.func5 (by kernel_rfl)
    (of_decide_eq_true (by kernel_rfl)) (by unfold Func.isWrapper; first | (rw [if_pos (by decide +kernel)]; kernel_rfl) | (rw [if_neg (by decide +kernel)]; exact ⟨rfl, rfl⟩))
    (fun os started H enc _ => hillReaches_lifted os started H enc)

theorem HillReaches_holds : Rows.HillReachesSaid := hillReaches_over

end Go.Proofs.Ytlnagjdokfkjoaa
