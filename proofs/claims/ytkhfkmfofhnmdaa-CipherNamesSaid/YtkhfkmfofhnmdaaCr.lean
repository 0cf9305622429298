/-
  WALKS of '(desk).exposed', Exposed. Conditions: lists have at most 1000 elements.
-/
import Derived.Test.YtkhfkmfofhnmdaaCq
namespace Go.Proofs.Ytkhfkmfofhnmdaa
open Go.RowKit

/-- The first day on which others can read the dispatches of a day, or -1. -/
def expI (n : Nat) (ls : List Ls) (key day : Int) : Int := if max day (takenI n ls key) = n then -1 else max day (takenI n ls key)
def exposedL (b : Bk) (ls : List Ls) : List Int := mapI (expI b.ds.length ls) 0 b.ds

set_option maxRecDepth 100000 in
set_option maxHeartbeats 1500000 in
theorem exposed_any (v1 v2 v3 : Value) (b : Bk) (ls : List Ls) (w : World) (hL : BookAt w v1 v2 b) (hl : RowsAt w v3 2 Ls.cells ls) :
    Calls Try.prog 68 #[deskV b v1 v2 v3] w fun e w' => ∃ v, e = .returned v ∧ w'.ownsRow w.heap.size 3 1 v b.ds.length ((exposedL b ls).map iv) ∧ Below w.heap.size w w' := by
  obtain ⟨i0, hi0, hz0, hz1, hz2⟩ := info_parts int_info
  obtain ⟨_, A1, cap1, rfl, _, _⟩ := hL.ks.form
  obtain ⟨hd0, A2, cap2, rfl, _, _⟩ := hL.ds.form
  obtain ⟨hlen, A3, cap3, rfl, hcap, _⟩ := hl.form
  have HV := Lib.hid hl
  have HD := Lib.hid hL.ds
  clear hL hl
  unfold deskV
  go_enter Try.func68, Try.ntmps68
  go_wp2_with fail
  have B1 := Box.new (w := w) (t := 98) (cs := #[iv b.n, iv b.w, .slice A1 b.ks.length cap1, .slice A2 b.ds.length cap2, .slice A3 ls.length cap3]) rfl
  have hB : Below w.heap.size w (w.alloc (.cells #[iv b.n, iv b.w, .slice A1 b.ks.length cap1, .slice A2 b.ds.length cap2, .slice A3 ls.length cap3] 98)) := up_alloc up0 _
  generalize hW2 : w.alloc (.cells #[iv b.n, iv b.w, .slice A1 b.ks.length cap1, .slice A2 b.ds.length cap2, .slice A3 ls.length cap3] 98) = W2 at B1 hB ⊢
  clear hW2
  obtain ⟨W3, hr, hown, hgrow⟩ := run_make_full (P := Try.prog) W2 w.heap.size 23 3 i0 (.int .i64 0) 1 Try.underlying23 hi0 hz0 hz1 .i64 .i64 b.ds.length (by rw [hz2]; omega) (by unfold maxLen; omega) hB.size
  have hB3 : Below w.heap.size w W3 := hB.trans ((below_of_grown hgrow).mono hB.size)
  have B3 := B1.kept (below_of_grown hgrow)
  have hlB := B1.lt
  have hg0 := hB.size
  have hlt3 := (hown.lt W2.heap.size rfl).2
  have HO := Lib.hid (show W3.ownsRow w.heap.size 3 1 (.slice (some ⟨W2.heap.size, 0, none⟩) b.ds.length b.ds.length) b.ds.length ((upto (exposedL b ls) 0).map iv) by
    rw [upto_zero, exposedL, mapI_len]
    simpa [toList_madeCells_one, Value.cells] using hown)
  rw [hr]
  clear hr hown hgrow B1 hB
  generalize W2.heap.size = g at *
  have c1 := fun i => B3.cell i
  go_wp2_with fail
  clear c1
  have Hlen := Lib.hid (show (exposedL b ls).length = b.ds.length from mapI_len _ 0 b.ds)
  go_loopw [15] (fun i wr => ∃ k : Nat, k ≤ b.ds.length ∧ i = .int .i64 k ∧ Below w.heap.size w wr ∧ Box wr w.heap.size 98 #[iv b.n, iv b.w, .slice A1 b.ks.length cap1, .slice A2 b.ds.length cap2, .slice A3 ls.length cap3] ∧
    Hid (wr.ownsRow w.heap.size 3 1 (.slice (some ⟨g, 0, none⟩) b.ds.length b.ds.length) b.ds.length ((upto (exposedL b ls) k).map iv))) (fun i _ => b.ds.length - (intOf i).toNat)
  case atStart => exact ⟨0, by omega, rfl, hB3, B3, HO⟩
  case round =>
    clear HO B3 hB3
    obtain ⟨k, hk, rfl, hB, B1, HO⟩ := hrel
    by_cases hlt : k < b.ds.length
    · obtain ⟨x, hx⟩ : ∃ x, b.ds[k]? = some x := ⟨_, List.getElem?_eq_getElem hlt⟩
      obtain ⟨bl, ol, rfl, hb, hc⟩ := (HD.out.kept hB).at rfl hx
      have q0 : wr.cell? ⟨bl, ol + k, none⟩ = some (.int .i64 x) := by simpa using hc 0 _ rfl
      have HM := Lib.hid (show (exposedL b ls)[k]? = some (expI b.ds.length ls x k) by simpa [exposedL] using mapI_at (expI b.ds.length ls) 0 b.ds k x hx)
      have c1 := fun i => B1.cell i
      clear hc hx
      go_wp2_with fail
      refine (taken_any b.n b.w _ _ _ _ _ ls x wr (HV.out.kept hB)).mono ?_
      rintro e w1 ⟨rfl, hb1⟩
      have HO1 := own_below HO.out hb1
      have B2 := B1.kept hb1
      have hgf : w1.frozen? ⟨g, k, none⟩ = false := own_free HO1
      obtain ⟨y, hy⟩ : ∃ y, (upto (exposedL b ls) k)[k]? = some y := ⟨_, List.getElem?_eq_getElem (by rw [upto_len (by rw [Hlen.out]; omega), Hlen.out]; exact hlt)⟩
      have hgc : w1.cell? ⟨g, k, none⟩ = some (iv y) := own_cell HO1 (by rw [List.getElem?_map, hy]; rfl)
      have hgl : g < w1.heap.size := (HO1.lt g rfl).2
      have kk0 : (0 : Int) ≤ (k : Int) := by omega
      have kk1 : (k : Int) < (b.ds.length : Int) := by omega
      clear c1 hy
      by_cases hq : (k : Int) < takenI b.ds.length ls x
      · have HQ := Lib.hid (show max (k : Int) (takenI b.ds.length ls x) = takenI b.ds.length ls x by omega)
        by_cases hz : takenI b.ds.length ls x = (b.ds.length : Int)
        · have hz' : (takenI b.ds.length ls x == (b.ds.length : Int)) = true := by simpa using hz
          have HE := Lib.hid (show expI b.ds.length ls x k = -1 by unfold expI; rw [HQ.out, if_pos hz])
          clear hz
          go_wp2_with fail
          have B := B2.far (p := ⟨g, k, none⟩) (by simp; omega) (iv (takenI b.ds.length ls x))
          have HOs := (own_put (i := k) (u := iv (takenI b.ds.length ls x)) HO1).2.2
          have hBs := up_put (up_later hB hb1) (p := ⟨g, k, none⟩) (by simp; omega) (iv (takenI b.ds.length ls x))
          clear hgf hgc q0
          apply wp_region_by 9 [(Fact.eq _), (Fact.eq _), (Fact.eq _), (Fact.eq _), (Fact.eq _), (Fact.eq _), (Fact.eq _), (Fact.eq _), (Fact.eq _)]
          case hm => kernel_rfl
          case hB => kernel_rfl
          case hA => (intro vs; simp only [List.take_succ_cons, List.take_zero, putAll, if_true, Act.put, List.setIfInBounds_toArray, List.set_cons_zero, List.set_cons_succ]; exact rfl)
          case hstep =>
            intro vs
            refine And.intro (fun w hw hd => ?_) ?_
            · refine ite_yes rfl ?_
              simp only [Gives]
              go_simp
              exact ⟨Below.refl _ _, rfl, fun h => by cases h⟩
            refine And.intro (fun w hw hd => ?_) ?_
            · refine ite_yes rfl ?_
              simp only [Gives]
              go_simp
              exact ⟨Below.refl _ _, rfl, fun h => by cases h⟩
            refine And.intro (fun w hw hd => ?_) ?_
            · have d0 := hd 0 (by decide) rfl
              change vs 0 = _ at d0
              have d1 := hd 1 (by decide) rfl
              change vs 1 = _ at d1
              refine ite_yes rfl ?_
              simp only [Gives]
              go_simp
              exact ⟨Below.refl _ _, rfl, fun h => by cases h⟩
            refine And.intro (fun w hw hd => ?_) ?_
            · have d2 := hd 2 (by decide) rfl
              change vs 2 = _ at d2
              refine ite_yes rfl ?_
              have c_B := fun i => (B.kept hw).cell i
              have q0 : w.cell? ⟨g, k, none⟩ = some (.int .i64 (takenI b.ds.length ls x)) := own_cell (own_below HOs hw) (by simp [upto_len (show k ≤ (exposedL b ls).length by rw [Hlen.out]; omega), Hlen.out, hlt])
              simp only [Gives]
              go_simp
              exact ⟨Below.refl _ _, rfl, fun h => by cases h⟩
            refine And.intro (fun w hw hd => ?_) ?_
            · refine ite_yes rfl ?_
              simp only [Gives]
              go_simp
              exact ⟨Below.refl _ _, rfl, fun h => by cases h⟩
            refine And.intro (fun w hw hd => ?_) ?_
            · have d4 := hd 4 (by decide) rfl
              change vs 4 = _ at d4
              refine ite_yes rfl ?_
              simp only [Gives]
              go_simp
              exact ⟨Below.refl _ _, rfl, fun h => by cases h⟩
            refine And.intro (fun w hw hd => ?_) ?_
            · have d5 := hd 5 (by decide) rfl
              change vs 5 = _ at d5
              refine ite_yes rfl ?_
              have c_B := fun i => (B.kept hw).cell i
              simp only [Gives]
              go_simp
              exact ⟨Below.refl _ _, rfl, fun h => by cases h⟩
            refine And.intro (fun w hw hd => ?_) ?_
            · have d6 := hd 6 (by decide) rfl
              change vs 6 = _ at d6
              refine ite_yes rfl ?_
              simp only [Gives]
              go_simp
              exact ⟨Below.refl _ _, rfl, fun h => by cases h⟩
            refine And.intro (fun w hw hd => ?_) ?_
            · have d3 := hd 3 (by decide) rfl
              change vs 3 = _ at d3
              have d7 := hd 7 (by decide) rfl
              change vs 7 = _ at d7
              refine ite_yes rfl ?_
              simp only [Gives]
              go_simp
              exact ⟨Below.refl _ _, rfl, fun h => by cases h⟩
            exact trivial
          intro vs wt hw hd hne hlo
          have d0 := hd 0 (by decide)
          change vs 0 = _ at d0
          have d1 := hd 1 (by decide)
          change vs 1 = _ at d1
          have d2 := hd 2 (by decide)
          change vs 2 = _ at d2
          have d3 := hd 3 (by decide)
          change vs 3 = _ at d3
          have d4 := hd 4 (by decide)
          change vs 4 = _ at d4
          have d5 := hd 5 (by decide)
          change vs 5 = _ at d5
          have d6 := hd 6 (by decide)
          change vs 6 = _ at d6
          have d7 := hd 7 (by decide)
          change vs 7 = _ at d7
          have d8 := hd 8 (by decide)
          change vs 8 = _ at d8
          simp only [d0, d1, d2, d3, d4, d5, d6, d7, d8, List.drop_succ_cons, List.drop_nil]
          have B := B.kept hw
          have c_B := fun i => B.cell i
          have f_B := fun i => B.free i
          clear hd hne hlo d0 d1 d2 d3 d4 d5 d6 d7 d8
          have HB3 := hw
          have hgf := own_free (p := k) (own_below HOs hw)
          have hgc : wt.cell? ⟨g, k, none⟩ = some (iv (takenI b.ds.length ls x)) := own_cell (own_below HOs hw) (by simp [upto_len (show k ≤ (exposedL b ls).length by rw [Hlen.out]; omega), Hlen.out, hlt])
          have hgl : g < wt.heap.size := ((own_below HOs hw).lt g rfl).2
          clear c_B f_B
          go_wp2_with fail
          go_roundw
          case rel =>
            refine ⟨k + 1, by omega, by go_num, up_put (up_later hBs hw) (by simp; omega) _, B.far (p := ⟨g, k, none⟩) (by simp; omega) _, ?_⟩
            have h := (own_put (i := k) (u := iv (-1)) (own_below HOs hw)).2.2
            rw [List.set_set, ← List.map_set, upto_set (by rw [HM.out, HE.out])] at h
            exact h
          case measure => simp [intOf]; omega
        · have hz' : (takenI b.ds.length ls x == (b.ds.length : Int)) = false := by rw [beq_eq_false_iff_ne]; exact hz
          have HE := Lib.hid (show expI b.ds.length ls x k = takenI b.ds.length ls x by unfold expI; rw [HQ.out, if_neg hz])
          clear hz
          go_wp2_with fail
          have B := B2.far (p := ⟨g, k, none⟩) (by simp; omega) (iv (takenI b.ds.length ls x))
          have HOs := (own_put (i := k) (u := iv (takenI b.ds.length ls x)) HO1).2.2
          have hBs := up_put (up_later hB hb1) (p := ⟨g, k, none⟩) (by simp; omega) (iv (takenI b.ds.length ls x))
          clear hgf hgc q0
          apply wp_region_by 9 [(Fact.eq _), (Fact.eq _), (Fact.eq _), (Fact.eq _), (Fact.eq _), (Fact.eq _), (Fact.eq _), (Fact.eq _), (Fact.eq _)]
          case hm => kernel_rfl
          case hB => kernel_rfl
          case hA => (intro vs; simp only [List.take_succ_cons, List.take_zero, putAll, if_true, Act.put, List.setIfInBounds_toArray, List.set_cons_zero, List.set_cons_succ]; exact rfl)
          case hstep =>
            intro vs
            refine And.intro (fun w hw hd => ?_) ?_
            · refine ite_yes rfl ?_
              simp only [Gives]
              go_simp
              exact ⟨Below.refl _ _, rfl, fun h => by cases h⟩
            refine And.intro (fun w hw hd => ?_) ?_
            · refine ite_yes rfl ?_
              simp only [Gives]
              go_simp
              exact ⟨Below.refl _ _, rfl, fun h => by cases h⟩
            refine And.intro (fun w hw hd => ?_) ?_
            · have d0 := hd 0 (by decide) rfl
              change vs 0 = _ at d0
              have d1 := hd 1 (by decide) rfl
              change vs 1 = _ at d1
              refine ite_yes rfl ?_
              simp only [Gives]
              go_simp
              exact ⟨Below.refl _ _, rfl, fun h => by cases h⟩
            refine And.intro (fun w hw hd => ?_) ?_
            · have d2 := hd 2 (by decide) rfl
              change vs 2 = _ at d2
              refine ite_yes rfl ?_
              have c_B := fun i => (B.kept hw).cell i
              have q0 : w.cell? ⟨g, k, none⟩ = some (.int .i64 (takenI b.ds.length ls x)) := own_cell (own_below HOs hw) (by simp [upto_len (show k ≤ (exposedL b ls).length by rw [Hlen.out]; omega), Hlen.out, hlt])
              simp only [Gives]
              go_simp
              exact ⟨Below.refl _ _, rfl, fun h => by cases h⟩
            refine And.intro (fun w hw hd => ?_) ?_
            · refine ite_yes rfl ?_
              simp only [Gives]
              go_simp
              exact ⟨Below.refl _ _, rfl, fun h => by cases h⟩
            refine And.intro (fun w hw hd => ?_) ?_
            · have d4 := hd 4 (by decide) rfl
              change vs 4 = _ at d4
              refine ite_yes rfl ?_
              simp only [Gives]
              go_simp
              exact ⟨Below.refl _ _, rfl, fun h => by cases h⟩
            refine And.intro (fun w hw hd => ?_) ?_
            · have d5 := hd 5 (by decide) rfl
              change vs 5 = _ at d5
              refine ite_yes rfl ?_
              have c_B := fun i => (B.kept hw).cell i
              simp only [Gives]
              go_simp
              exact ⟨Below.refl _ _, rfl, fun h => by cases h⟩
            refine And.intro (fun w hw hd => ?_) ?_
            · have d6 := hd 6 (by decide) rfl
              change vs 6 = _ at d6
              refine ite_yes rfl ?_
              simp only [Gives]
              go_simp
              exact ⟨Below.refl _ _, rfl, fun h => by cases h⟩
            refine And.intro (fun w hw hd => ?_) ?_
            · have d3 := hd 3 (by decide) rfl
              change vs 3 = _ at d3
              have d7 := hd 7 (by decide) rfl
              change vs 7 = _ at d7
              refine ite_yes rfl ?_
              simp only [Gives]
              go_simp
              exact ⟨Below.refl _ _, rfl, fun h => by cases h⟩
            exact trivial
          intro vs wt hw hd hne hlo
          have d0 := hd 0 (by decide)
          change vs 0 = _ at d0
          have d1 := hd 1 (by decide)
          change vs 1 = _ at d1
          have d2 := hd 2 (by decide)
          change vs 2 = _ at d2
          have d3 := hd 3 (by decide)
          change vs 3 = _ at d3
          have d4 := hd 4 (by decide)
          change vs 4 = _ at d4
          have d5 := hd 5 (by decide)
          change vs 5 = _ at d5
          have d6 := hd 6 (by decide)
          change vs 6 = _ at d6
          have d7 := hd 7 (by decide)
          change vs 7 = _ at d7
          have d8 := hd 8 (by decide)
          change vs 8 = _ at d8
          simp only [d0, d1, d2, d3, d4, d5, d6, d7, d8, List.drop_succ_cons, List.drop_nil]
          have B := B.kept hw
          have c_B := fun i => B.cell i
          have f_B := fun i => B.free i
          clear hd hne hlo d0 d1 d2 d3 d4 d5 d6 d7 d8
          go_wp2_with fail
          go_roundw
          case rel =>
            refine ⟨k + 1, by omega, by go_num, up_later hBs hw, B, ?_⟩
            have h := own_below HOs hw
            rw [← List.map_set, upto_set (by rw [HM.out, HE.out])] at h
            exact h
          case measure => simp [intOf]; omega
      · have HQ := Lib.hid (show max (k : Int) (takenI b.ds.length ls x) = k by omega)
        have hz' : ((k : Int) == (b.ds.length : Int)) = false := by rw [beq_eq_false_iff_ne]; omega
        have HE := Lib.hid (show expI b.ds.length ls x k = k by unfold expI; rw [HQ.out, if_neg (by omega)])
        go_wp2_with fail
        have B := B2.far (p := ⟨g, k, none⟩) (by simp; omega) (iv (k))
        have HOs := (own_put (i := k) (u := iv (k)) HO1).2.2
        have hBs := up_put (up_later hB hb1) (p := ⟨g, k, none⟩) (by simp; omega) (iv (k))
        clear hgf hgc q0
        apply wp_region_by 9 [(Fact.eq _), (Fact.eq _), (Fact.eq _), (Fact.eq _), (Fact.eq _), (Fact.eq _), (Fact.eq _), (Fact.eq _), (Fact.eq _)]
        case hm => kernel_rfl
        case hB => kernel_rfl
        case hA => (intro vs; simp only [List.take_succ_cons, List.take_zero, putAll, if_true, Act.put, List.setIfInBounds_toArray, List.set_cons_zero, List.set_cons_succ]; exact rfl)
        case hstep =>
          intro vs
          refine And.intro (fun w hw hd => ?_) ?_
          · refine ite_yes rfl ?_
            simp only [Gives]
            go_simp
            exact ⟨Below.refl _ _, rfl, fun h => by cases h⟩
          refine And.intro (fun w hw hd => ?_) ?_
          · refine ite_yes rfl ?_
            simp only [Gives]
            go_simp
            exact ⟨Below.refl _ _, rfl, fun h => by cases h⟩
          refine And.intro (fun w hw hd => ?_) ?_
          · have d0 := hd 0 (by decide) rfl
            change vs 0 = _ at d0
            have d1 := hd 1 (by decide) rfl
            change vs 1 = _ at d1
            refine ite_yes rfl ?_
            simp only [Gives]
            go_simp
            exact ⟨Below.refl _ _, rfl, fun h => by cases h⟩
          refine And.intro (fun w hw hd => ?_) ?_
          · have d2 := hd 2 (by decide) rfl
            change vs 2 = _ at d2
            refine ite_yes rfl ?_
            have c_B := fun i => (B.kept hw).cell i
            have q0 : w.cell? ⟨g, k, none⟩ = some (.int .i64 (k)) := own_cell (own_below HOs hw) (by simp [upto_len (show k ≤ (exposedL b ls).length by rw [Hlen.out]; omega), Hlen.out, hlt])
            simp only [Gives]
            go_simp
            exact ⟨Below.refl _ _, rfl, fun h => by cases h⟩
          refine And.intro (fun w hw hd => ?_) ?_
          · refine ite_yes rfl ?_
            simp only [Gives]
            go_simp
            exact ⟨Below.refl _ _, rfl, fun h => by cases h⟩
          refine And.intro (fun w hw hd => ?_) ?_
          · have d4 := hd 4 (by decide) rfl
            change vs 4 = _ at d4
            refine ite_yes rfl ?_
            simp only [Gives]
            go_simp
            exact ⟨Below.refl _ _, rfl, fun h => by cases h⟩
          refine And.intro (fun w hw hd => ?_) ?_
          · have d5 := hd 5 (by decide) rfl
            change vs 5 = _ at d5
            refine ite_yes rfl ?_
            have c_B := fun i => (B.kept hw).cell i
            simp only [Gives]
            go_simp
            exact ⟨Below.refl _ _, rfl, fun h => by cases h⟩
          refine And.intro (fun w hw hd => ?_) ?_
          · have d6 := hd 6 (by decide) rfl
            change vs 6 = _ at d6
            refine ite_yes rfl ?_
            simp only [Gives]
            go_simp
            exact ⟨Below.refl _ _, rfl, fun h => by cases h⟩
          refine And.intro (fun w hw hd => ?_) ?_
          · have d3 := hd 3 (by decide) rfl
            change vs 3 = _ at d3
            have d7 := hd 7 (by decide) rfl
            change vs 7 = _ at d7
            refine ite_yes rfl ?_
            simp only [Gives]
            go_simp
            exact ⟨Below.refl _ _, rfl, fun h => by cases h⟩
          exact trivial
        intro vs wt hw hd hne hlo
        have d0 := hd 0 (by decide)
        change vs 0 = _ at d0
        have d1 := hd 1 (by decide)
        change vs 1 = _ at d1
        have d2 := hd 2 (by decide)
        change vs 2 = _ at d2
        have d3 := hd 3 (by decide)
        change vs 3 = _ at d3
        have d4 := hd 4 (by decide)
        change vs 4 = _ at d4
        have d5 := hd 5 (by decide)
        change vs 5 = _ at d5
        have d6 := hd 6 (by decide)
        change vs 6 = _ at d6
        have d7 := hd 7 (by decide)
        change vs 7 = _ at d7
        have d8 := hd 8 (by decide)
        change vs 8 = _ at d8
        simp only [d0, d1, d2, d3, d4, d5, d6, d7, d8, List.drop_succ_cons, List.drop_nil]
        have B := B.kept hw
        have c_B := fun i => B.cell i
        have f_B := fun i => B.free i
        clear hd hne hlo d0 d1 d2 d3 d4 d5 d6 d7 d8
        go_wp2_with fail
        go_roundw
        case rel =>
          refine ⟨k + 1, by omega, by go_num, up_later hBs hw, B, ?_⟩
          have h := own_below HOs hw
          rw [← List.map_set, upto_set (by rw [HM.out, HE.out])] at h
          exact h
        case measure => simp [intOf]; omega
    · have hke : k = b.ds.length := by omega
      subst hke
      have c1 := fun i => B1.cell i
      go_wp2_with fail
      go_ret
      have h := HO.out
      have e : upto (exposedL b ls) b.ds.length = exposedL b ls := by
        have := upto_all (exposedL b ls)
        rwa [Hlen.out] at this
      rw [e] at h
      exact ⟨_, rfl, h, hB⟩

/-- The days of all dispatches, or the error. -/
def exposedE (b : Bk) (ls : List Ls) : List Int × Int := if deskE b ls ≠ 0 then ([], deskE b ls) else (exposedL b ls, 0)

set_option maxRecDepth 100000 in
set_option maxHeartbeats 1500000 in
theorem Exposed_any (v1 v2 v3 : Value) (b : Bk) (ls : List Ls) (w : World) (hL : BookAt w v1 v2 b) (hl : RowsAt w v3 2 Ls.cells ls) :
    Calls Try.prog 30 #[bookV b v1 v2, v3] w fun e w' => ∃ v, e = .returned (.tuple #[v, iv (exposedE b ls).2]) ∧ w'.ownsRow w.heap.size 3 1 v (exposedE b ls).1.length ((exposedE b ls).1.map iv) ∧ Below w.heap.size w w' := by
  obtain ⟨_, A1, cap1, rfl, _, _⟩ := hL.ks.form
  obtain ⟨_, A2, cap2, rfl, _, _⟩ := hL.ds.form
  obtain ⟨hlen, A3, cap3, rfl, hcap, _⟩ := hl.form
  have HV := Lib.hid hl
  have HL := Lib.hid hL
  clear hL hl
  by_cases c1 : deskE b ls = 0
  case neg =>
    have C1 := Lib.hid c1
    have c1' : (deskE b ls == 0) = false := by rw [beq_eq_false_iff_ne]; exact c1
    have Hfin := Lib.hid (show exposedE b ls = ([], deskE b ls) by unfold exposedE; rw [if_pos c1])
    rw [Hfin.out]
    clear c1
    unfold bookV
    go_enter Try.func30, Try.ntmps30
    go_wp2_with fail
    refine (open_any _ _ _ b ls _ (HL.out.kept (up_alloc up0 _)) (HV.out.kept (up_alloc up0 _))).mono ?_
    rintro e w1 ⟨rfl, hb⟩
    rw [if_neg C1.out]
    unfold desk0
    have hB := up_later (up_alloc (up0 (w := w)) (.cells #[iv b.n, iv b.w, .slice A1 b.ks.length cap1, .slice A2 b.ds.length cap2] 32)) hb
    clear hb
    go_wp2_with fail
    go_ret2
    exact ⟨_, rfl, own_nil', up_alloc hB _⟩
  have C1 := Lib.hid c1
  have Hfin := Lib.hid (show exposedE b ls = (exposedL b ls, 0) by unfold exposedE; rw [if_neg (by simpa using c1)])
  rw [Hfin.out]
  clear c1
  unfold bookV
  go_enter Try.func30, Try.ntmps30
  go_wp2_with fail
  refine (open_any _ _ _ b ls _ (HL.out.kept (up_alloc up0 _)) (HV.out.kept (up_alloc up0 _))).mono ?_
  rintro e w1 ⟨rfl, hb⟩
  rw [if_pos C1.out, C1.out]
  unfold deskV
  have hB := up_later (up_alloc (up0 (w := w)) (.cells #[iv b.n, iv b.w, .slice A1 b.ks.length cap1, .slice A2 b.ds.length cap2] 32)) hb
  clear hb
  go_wp2_with fail
  have hB1 := up_alloc hB (.cells #[iv b.n, iv b.w, .slice A1 b.ks.length cap1, .slice A2 b.ds.length cap2, .slice A3 ls.length cap3] 98)
  refine (exposed_any _ _ _ b ls _ (HL.out.kept hB1) (HV.out.kept hB1)).mono ?_
  rintro e w2 ⟨v, rfl, ho, hb⟩
  go_wp2_with fail
  go_ret2
  refine ⟨v, rfl, ?_, up_later hB1 hb⟩
  rw [show (exposedL b ls).length = b.ds.length from mapI_len _ 0 b.ds]
  exact own_mono ho hB1.size

end Go.Proofs.Ytkhfkmfofhnmdaa
