/-
  WALK of the reference's IsRight. Conditions: lists have at most 1000 elements; a book has at most 5 keys; the number is not below 0.
-/
import Derived.Test.YtoenhkhfpbglhaaEm
import Derived.Test.YtoenhkhfpbglhaaDp
namespace Go.Proofs.Ytoenhkhfpbglhaa
open Go.RowKit Go.Shelf
attribute [local go_sem] Oper.semAt_some

theorem had_free {n : Nat} {ls : List Ls} {key d : Int} (hd : d < n) : hadB ls key d = !freeB n ls key d := by
  rw [had_taken hd]
  unfold freeB
  rw [← decide_not, decide_eq_decide]
  omega
set_option maxRecDepth 100000 in
set_option maxHeartbeats 2000000 in
theorem RIsRight_any (v1 v2 v3 v : Value) (b : Bk) (ls : List Ls) (most : Int) (l : List Int) (w : World) (h0 : 0 ≤ most) (hk5 : b.ks.length ≤ 5) (hL : BookAt w v1 v2 b) (hls : RowsAt w v3 2 Ls.cells ls) (hl : IntsAt w v l) :
    Calls Try.prog 37 #[.agg #[iv b.n, iv b.w, v1, v2], v3, iv most, v] w fun r w' => r = .returned (.bool (rightB b ls most l)) ∧ Below w.heap.size w w' := by
  obtain ⟨_, A1, cap1, rfl, _, _⟩ := hL.ks.form
  obtain ⟨hd8, A2, cap2, rfl, _, _⟩ := hL.ds.form
  obtain ⟨_, A3, cap3, rfl, _, _⟩ := hls.form
  obtain ⟨hl8, A4, cap4, rfl, _, _⟩ := hl.form
  have HS := Lib.hid hls
  have HV := Lib.hid hl
  clear hL hls hl
  have N0 := Lib.hid (Box.new (w := w) (t := 25) (cs := #[iv b.n, iv b.w, .slice A1 b.ks.length cap1, .slice A2 b.ds.length cap2]) rfl)
  have HB0 := Lib.hid (up_alloc (up0 (w := w)) (.cells #[iv b.n, iv b.w, .slice A1 b.ks.length cap1, .slice A2 b.ds.length cap2] 25))
  by_cases c1 : l.length = b.ds.length
  case neg =>
    have z1 : ((l.length : Int) == (b.ds.length : Int)) = false := by rw [beq_eq_false_iff_ne]; omega
    have Hr := Lib.hid (show rightB b ls most l = false by unfold rightB; rw [decide_eq_false c1]; rfl)
    rw [Hr.out]
    go_enter Try.func37, Try.ntmps37
    go_wp2_with fail
    go_ret
    exact ⟨rfl, HB0.out⟩
  have z1 : ((l.length : Int) == (b.ds.length : Int)) = true := by rw [beq_iff_eq]; omega
  obtain ⟨D, hD⟩ : ∃ D, b.ds.length = D := ⟨_, rfl⟩
  have Hlen := Lib.hid hD
  have hc1 := c1
  rw [hD] at N0 HB0 hc1 ⊢
  subst hc1
  clear hD c1
  have Hr := Lib.hid (show rightB b ls most l = okB b ls most l by unfold rightB; rw [Hlen.out, decide_eq_true rfl]; rfl)
  rw [Hr.out]
  have hW0 : IntKind.i64.wrap ((b.ks.length : Int) - 1) = (b.ks.length : Int) - 1 := wrapK_in _ 1000 (by omega) (by omega)
  go_enter Try.func37, Try.ntmps37
  go_wp2_with fail
  have hsz1 : w.heap.size + 1 = w.heap.size + 1 := rfl
  obtain ⟨g, hg⟩ : ∃ g, w.heap.size + 1 = g := ⟨_, rfl⟩
  have U0 := Lib.hid (Box.new (w := w.alloc (.cells #[iv b.n, iv b.w, .slice A1 b.ks.length cap1, .slice A2 l.length cap2] 25)) (g := w.heap.size + 1) (t := 115) (cs := usedC []) (by simp))
  have N1 := Lib.hid (N0.out.alloc (.cells (usedC []) 115))
  have HB := Lib.hid (up_alloc HB0.out (.cells (usedC []) 115))
  rw [hg] at U0 ⊢
  have hgl : w.heap.size < g := by omega
  clear hg hsz1 N0 HB0
  go_loopw [10] (fun i wr => ∃ k : Nat, k ≤ l.length ∧ i = .int .i64 k ∧ Hid ((∀ x ∈ l.take k, belowB x b.ks.length = true) ∧ freesB l.length ls 0 (l.take k) = true ∧ ∀ j, j < 5 → cnt (l.take k) j ≤ most) ∧ Hid (Box wr g 115 (usedC (l.take k))) ∧ Hid (Box wr w.heap.size 25 #[iv b.n, iv b.w, .slice A1 b.ks.length cap1, .slice A2 l.length cap2]) ∧ Hid (Below w.heap.size w wr)) (fun i _ => l.length - (intOf i).toNat)
  case atStart => exact ⟨0, by omega, rfl, Lib.hid ⟨by simp, rfl, fun j _ => h0⟩, U0.out, N1.out, HB.out⟩
  case round =>
    clear U0 N1 HB
    obtain ⟨k, hk, rfl, HF, U, N, HB⟩ := hrel
    have k0 : (0 : Int) ≤ (k : Int) := by omega
    by_cases hlt : k < l.length
    · obtain ⟨x, hx⟩ : ∃ x, l[k]? = some x := ⟨_, List.getElem?_eq_getElem hlt⟩
      have k1 : (k : Int) < (l.length : Int) := by omega
      have HR := Lib.hid (HV.out.kept HB.out)
      have HSr := Lib.hid (HS.out.kept HB.out)
      obtain ⟨b1, o1, rfl, _, _⟩ := HR.out.at rfl hx
      have Hx := Lib.hid hx
      clear hx
      have NN := N.out
      cases c2 : inB 0 ((b.ks.length : Int) - 1) x with
      | false =>
        have HI := Lib.hid c2
        have Hf := Lib.hid (show okB b ls most l = false by
          have : belowB x b.ks.length = false := by rw [← inB_below]; exact c2
          unfold okB; rw [all_part Hx.out this]; rfl)
        clear c2
        go_wp2_with fail
        apply wp_region_by 19 [(Fact.eq _), (Fact.eq _), (Fact.eq _), (Fact.eq _), (Fact.eq _), (Fact.eq _), (Fact.eq _), (Fact.eq _), (Fact.eq _), (Fact.eq _), (Fact.eq _), (Fact.eq _), (Fact.eq _), (Fact.eq _), (Fact.eq _), (Fact.eq _), (Fact.eq _), (Fact.eq _), (Fact.eq _)]
        case hm => kernel_rfl
        case hB => kernel_rfl
        case hA => (intro vs; simp only [List.take_succ_cons, List.take_zero, putAll, if_true, Act.put, List.setIfInBounds_toArray, List.set_cons_zero, List.set_cons_succ]; exact rfl)
        case hstep =>
          intro vs
          refine And.intro (fun w hw hd => ?_) ?_
          · refine ite_yes rfl ?_
            simp only [Gives]
            go_simp
            exact ⟨Below.refl _ _, rfl, fun h => by cases h⟩
          refine And.intro (fun w hw hd => ?_) ?_
          · refine ite_yes rfl ?_
            simp only [Gives]
            go_simp
            exact ⟨Below.refl _ _, rfl, fun h => by cases h⟩
          refine And.intro (fun w hw hd => ?_) ?_
          · have d0 := hd 0 (by decide) rfl
            change vs 0 = _ at d0
            have d1 := hd 1 (by decide) rfl
            change vs 1 = _ at d1
            refine ite_yes rfl ?_
            simp only [Gives]
            go_simp
            exact ⟨Below.refl _ _, rfl, fun h => by cases h⟩
          refine And.intro (fun w hw hd => ?_) ?_
          · have d2 := hd 2 (by decide) rfl
            change vs 2 = _ at d2
            refine ite_yes rfl ?_
            have c_NN := fun i => (NN.kept hw).cell i
            have q0 : w.cell? ⟨b1, o1 + k, none⟩ = some (.int .i64 x) := by simpa using (HR.out.kept hw).cellAt Hx.out (j := 0) rfl
            simp only [Gives]
            go_simp
            exact ⟨Below.refl _ _, rfl, fun h => by cases h⟩
          refine And.intro (fun w hw hd => ?_) ?_
          · refine ite_yes rfl ?_
            simp only [Gives]
            go_simp
            exact ⟨Below.refl _ _, rfl, fun h => by cases h⟩
          refine And.intro (fun w hw hd => ?_) ?_
          · have d4 := hd 4 (by decide) rfl
            change vs 4 = _ at d4
            refine ite_yes rfl ?_
            have c_NN := fun i => (NN.kept hw).cell i
            simp only [Gives]
            go_simp
            exact ⟨Below.refl _ _, rfl, fun h => by cases h⟩
          refine And.intro (fun w hw hd => ?_) ?_
          · have d5 := hd 5 (by decide) rfl
            change vs 5 = _ at d5
            refine ite_yes rfl ?_
            simp only [Gives]
            go_simp
            exact ⟨Below.refl _ _, rfl, fun h => by cases h⟩
          refine And.intro (fun w hw hd => ?_) ?_
          · have d6 := hd 6 (by decide) rfl
            change vs 6 = _ at d6
            refine ite_yes rfl ?_
            simp only [Gives]
            go_simp
            exact ⟨Below.refl _ _, rfl, fun h => by cases h⟩
          refine And.intro (fun w hw hd => ?_) ?_
          · have d3 := hd 3 (by decide) rfl
            change vs 3 = _ at d3
            have d7 := hd 7 (by decide) rfl
            change vs 7 = _ at d7
            refine ite_yes rfl ?_
            simp only [Gives]
            go_simp
            refine (In_b x 0 ((b.ks.length : Int) - 1) false w HI.out).mono ?_
            rintro e w1 ⟨rfl, hb⟩
            exact ⟨_, rfl, hb, rfl, fun h => by cases h⟩
          refine And.intro (fun w hw hd => ?_) ?_
          · have d8 := hd 8 (by decide) rfl
            change vs 8 = _ at d8
            refine ite_yes rfl ?_
            simp only [Gives]
            go_simp
            exact ⟨Below.refl _ _, rfl, fun h => by cases h⟩
          refine And.intro (fun w hw hd => ?_) ?_
          · have d9 := hd 9 (by decide) rfl
            change vs 9 = _ at d9
            refine ite_yes rfl ?_
            simp only [Gives]
            go_simp
            exact ⟨Below.refl _ _, rfl, fun h => by cases h⟩
          refine And.intro (fun w hw hd => ?_) ?_
          · have d10 := hd 10 (by decide) rfl
            change vs 10 = _ at d10
            refine ite_no (by simp [Region.wanted, yielded, d10]) ?_
            exact ⟨rfl, rfl⟩
          refine And.intro (fun w hw hd => ?_) ?_
          · have d10 := hd 10 (by decide) rfl
            change vs 10 = _ at d10
            refine ite_no (by simp [Region.wanted, yielded, d10]) ?_
            exact ⟨rfl, rfl⟩
          refine And.intro (fun w hw hd => ?_) ?_
          · have d10 := hd 10 (by decide) rfl
            change vs 10 = _ at d10
            refine ite_no (by simp [Region.wanted, yielded, d10]) ?_
            exact ⟨rfl, rfl⟩
          refine And.intro (fun w hw hd => ?_) ?_
          · have d12 := hd 12 (by decide) rfl
            change vs 12 = _ at d12
            have d13 := hd 13 (by decide) rfl
            change vs 13 = _ at d13
            have d10 := hd 10 (by decide) rfl
            change vs 10 = _ at d10
            refine ite_no (by simp [Region.wanted, yielded, d10]) ?_
            exact ⟨rfl, rfl⟩
          refine And.intro (fun w hw hd => ?_) ?_
          · have d14 := hd 14 (by decide) rfl
            change vs 14 = _ at d14
            have d10 := hd 10 (by decide) rfl
            change vs 10 = _ at d10
            refine ite_no (by simp [Region.wanted, yielded, d10]) ?_
            exact ⟨rfl, rfl⟩
          refine And.intro (fun w hw hd => ?_) ?_
          · have d10 := hd 10 (by decide) rfl
            change vs 10 = _ at d10
            refine ite_no (by simp [Region.wanted, yielded, d10]) ?_
            exact ⟨rfl, rfl⟩
          refine And.intro (fun w hw hd => ?_) ?_
          · have d11 := hd 11 (by decide) rfl
            change vs 11 = _ at d11
            have d15 := hd 15 (by decide) rfl
            change vs 15 = _ at d15
            have d16 := hd 16 (by decide) rfl
            change vs 16 = _ at d16
            have d10 := hd 10 (by decide) rfl
            change vs 10 = _ at d10
            refine ite_no (by simp [Region.wanted, yielded, d10]) ?_
            exact ⟨rfl, rfl⟩
          refine And.intro (fun w hw hd => ?_) ?_
          · have d10 := hd 10 (by decide) rfl
            change vs 10 = _ at d10
            have d17 := hd 17 (by decide) rfl
            change vs 17 = _ at d17
            refine ite_yes rfl ?_
            simp only [Gives]
            go_simp
            exact ⟨Below.refl _ _, rfl, fun h => by cases h⟩
          exact trivial
        intro vs wt hw hd hne hlo
        have d0 := hd 0 (by decide)
        change vs 0 = _ at d0
        have d1 := hd 1 (by decide)
        change vs 1 = _ at d1
        have d2 := hd 2 (by decide)
        change vs 2 = _ at d2
        have d3 := hd 3 (by decide)
        change vs 3 = _ at d3
        have d4 := hd 4 (by decide)
        change vs 4 = _ at d4
        have d5 := hd 5 (by decide)
        change vs 5 = _ at d5
        have d6 := hd 6 (by decide)
        change vs 6 = _ at d6
        have d7 := hd 7 (by decide)
        change vs 7 = _ at d7
        have d8 := hd 8 (by decide)
        change vs 8 = _ at d8
        have d9 := hd 9 (by decide)
        change vs 9 = _ at d9
        have d10 := hd 10 (by decide)
        change vs 10 = _ at d10
        have d11 := hd 11 (by decide)
        change vs 11 = _ at d11
        have d12 := hd 12 (by decide)
        change vs 12 = _ at d12
        have d13 := hd 13 (by decide)
        change vs 13 = _ at d13
        have d14 := hd 14 (by decide)
        change vs 14 = _ at d14
        have d15 := hd 15 (by decide)
        change vs 15 = _ at d15
        have d16 := hd 16 (by decide)
        change vs 16 = _ at d16
        have d17 := hd 17 (by decide)
        change vs 17 = _ at d17
        have d18 := hd 18 (by decide)
        change vs 18 = _ at d18
        simp only [d0, d1, d2, d3, d4, d5, d6, d7, d8, d9, d10, d11, d12, d13, d14, d15, d16, d17, d18, List.drop_succ_cons, List.drop_nil]
        have NN := NN.kept hw
        have c_NN := fun i => NN.cell i
        have f_NN := fun i => NN.free i
        clear hd hne hlo d0 d1 d2 d3 d4 d5 d6 d7 d8 d9 d10 d11 d12 d13 d14 d15 d16 d17 d18
        go_wp2_with fail
        go_ret
        exact ⟨by rw [Hf.out]; rfl, up_later HB.out hw⟩
      | true =>
        have HI := Lib.hid c2
        have c2' : belowB x b.ks.length = true := by rw [← inB_below]; exact c2
        have hxi := belowB_iff.1 c2'
        have HBl := Lib.hid c2'
        obtain ⟨q, rfl⟩ : ∃ q : Nat, x = q := ⟨x.toNat, by omega⟩
        have hq5 : q < 5 := by omega
        clear c2 c2'
        cases c3 : freeB l.length ls (q : Int) (k : Int) with
        | false =>
          have HH := Lib.hid (show hadB ls (q : Int) (k : Int) = true by rw [had_free (n := l.length) k1, c3]; rfl)
          have Hf := Lib.hid (show okB b ls most l = false by unfold okB; rw [Hlen.out, freesB_part Hx.out c3]; simp)
          clear c3
          go_wp2_with fail
          apply wp_region_by 19 [(Fact.eq _), (Fact.eq _), (Fact.eq _), (Fact.eq _), (Fact.eq _), (Fact.eq _), (Fact.eq _), (Fact.eq _), (Fact.eq _), (Fact.eq _), (Fact.eq _), (Fact.eq _), (Fact.eq _), (Fact.eq _), (Fact.eq _), (Fact.eq _), (Fact.eq _), (Fact.eq (.bool true)), (Fact.eq _)]
          case hm => kernel_rfl
          case hB => kernel_rfl
          case hA => (intro vs; simp only [List.take_succ_cons, List.take_zero, putAll, if_true, Act.put, List.setIfInBounds_toArray, List.set_cons_zero, List.set_cons_succ]; exact rfl)
          case hstep =>
            intro vs
            refine And.intro (fun w hw hd => ?_) ?_
            · refine ite_yes rfl ?_
              simp only [Gives]
              go_simp
              exact ⟨Below.refl _ _, rfl, fun h => by cases h⟩
            refine And.intro (fun w hw hd => ?_) ?_
            · refine ite_yes rfl ?_
              simp only [Gives]
              go_simp
              exact ⟨Below.refl _ _, rfl, fun h => by cases h⟩
            refine And.intro (fun w hw hd => ?_) ?_
            · have d0 := hd 0 (by decide) rfl
              change vs 0 = _ at d0
              have d1 := hd 1 (by decide) rfl
              change vs 1 = _ at d1
              refine ite_yes rfl ?_
              simp only [Gives]
              go_simp
              exact ⟨Below.refl _ _, rfl, fun h => by cases h⟩
            refine And.intro (fun w hw hd => ?_) ?_
            · have d2 := hd 2 (by decide) rfl
              change vs 2 = _ at d2
              refine ite_yes rfl ?_
              have c_NN := fun i => (NN.kept hw).cell i
              have q0 : w.cell? ⟨b1, o1 + k, none⟩ = some (.int .i64 (q : Int)) := by simpa using (HR.out.kept hw).cellAt Hx.out (j := 0) rfl
              simp only [Gives]
              go_simp
              exact ⟨Below.refl _ _, rfl, fun h => by cases h⟩
            refine And.intro (fun w hw hd => ?_) ?_
            · refine ite_yes rfl ?_
              simp only [Gives]
              go_simp
              exact ⟨Below.refl _ _, rfl, fun h => by cases h⟩
            refine And.intro (fun w hw hd => ?_) ?_
            · have d4 := hd 4 (by decide) rfl
              change vs 4 = _ at d4
              refine ite_yes rfl ?_
              have c_NN := fun i => (NN.kept hw).cell i
              simp only [Gives]
              go_simp
              exact ⟨Below.refl _ _, rfl, fun h => by cases h⟩
            refine And.intro (fun w hw hd => ?_) ?_
            · have d5 := hd 5 (by decide) rfl
              change vs 5 = _ at d5
              refine ite_yes rfl ?_
              simp only [Gives]
              go_simp
              exact ⟨Below.refl _ _, rfl, fun h => by cases h⟩
            refine And.intro (fun w hw hd => ?_) ?_
            · have d6 := hd 6 (by decide) rfl
              change vs 6 = _ at d6
              refine ite_yes rfl ?_
              simp only [Gives]
              go_simp
              exact ⟨Below.refl _ _, rfl, fun h => by cases h⟩
            refine And.intro (fun w hw hd => ?_) ?_
            · have d3 := hd 3 (by decide) rfl
              change vs 3 = _ at d3
              have d7 := hd 7 (by decide) rfl
              change vs 7 = _ at d7
              refine ite_yes rfl ?_
              simp only [Gives]
              go_simp
              refine (In_b q 0 ((b.ks.length : Int) - 1) true w HI.out).mono ?_
              rintro e w1 ⟨rfl, hb⟩
              exact ⟨_, rfl, hb, rfl, fun h => by cases h⟩
            refine And.intro (fun w hw hd => ?_) ?_
            · have d8 := hd 8 (by decide) rfl
              change vs 8 = _ at d8
              refine ite_yes rfl ?_
              simp only [Gives]
              go_simp
              exact ⟨Below.refl _ _, rfl, fun h => by cases h⟩
            refine And.intro (fun w hw hd => ?_) ?_
            · have d9 := hd 9 (by decide) rfl
              change vs 9 = _ at d9
              refine ite_yes rfl ?_
              simp only [Gives]
              go_simp
              exact ⟨Below.refl _ _, rfl, fun h => by cases h⟩
            refine And.intro (fun w hw hd => ?_) ?_
            · have d10 := hd 10 (by decide) rfl
              change vs 10 = _ at d10
              refine ite_yes (by simp [Region.wanted, yielded, d10]) ?_
              simp only [Gives]
              go_simp
              exact ⟨Below.refl _ _, rfl, fun h => by cases h⟩
            refine And.intro (fun w hw hd => ?_) ?_
            · have d10 := hd 10 (by decide) rfl
              change vs 10 = _ at d10
              refine ite_yes (by simp [Region.wanted, yielded, d10]) ?_
              simp only [Gives]
              go_simp
              exact ⟨Below.refl _ _, rfl, fun h => by cases h⟩
            refine And.intro (fun w hw hd => ?_) ?_
            · have d10 := hd 10 (by decide) rfl
              change vs 10 = _ at d10
              refine ite_yes (by simp [Region.wanted, yielded, d10]) ?_
              simp only [Gives]
              go_simp
              exact ⟨Below.refl _ _, rfl, fun h => by cases h⟩
            refine And.intro (fun w hw hd => ?_) ?_
            · have d12 := hd 12 (by decide) rfl
              change vs 12 = _ at d12
              have d13 := hd 13 (by decide) rfl
              change vs 13 = _ at d13
              have d10 := hd 10 (by decide) rfl
              change vs 10 = _ at d10
              refine ite_yes (by simp [Region.wanted, yielded, d10]) ?_
              simp only [Gives]
              go_simp
              exact ⟨Below.refl _ _, rfl, fun h => by cases h⟩
            refine And.intro (fun w hw hd => ?_) ?_
            · have d14 := hd 14 (by decide) rfl
              change vs 14 = _ at d14
              have d10 := hd 10 (by decide) rfl
              change vs 10 = _ at d10
              refine ite_yes (by simp [Region.wanted, yielded, d10]) ?_
              have c_NN := fun i => (NN.kept hw).cell i
              have q0 : w.cell? ⟨b1, o1 + k, none⟩ = some (.int .i64 (q : Int)) := by simpa using (HR.out.kept hw).cellAt Hx.out (j := 0) rfl
              simp only [Gives]
              go_simp
              exact ⟨Below.refl _ _, rfl, fun h => by cases h⟩
            refine And.intro (fun w hw hd => ?_) ?_
            · have d10 := hd 10 (by decide) rfl
              change vs 10 = _ at d10
              refine ite_yes (by simp [Region.wanted, yielded, d10]) ?_
              simp only [Gives]
              go_simp
              exact ⟨Below.refl _ _, rfl, fun h => by cases h⟩
            refine And.intro (fun w hw hd => ?_) ?_
            · have d11 := hd 11 (by decide) rfl
              change vs 11 = _ at d11
              have d15 := hd 15 (by decide) rfl
              change vs 15 = _ at d15
              have d16 := hd 16 (by decide) rfl
              change vs 16 = _ at d16
              have d10 := hd 10 (by decide) rfl
              change vs 10 = _ at d10
              refine ite_yes (by simp [Region.wanted, yielded, d10]) ?_
              simp only [Gives]
              go_simp
              refine (Had_any _ ls q k w (HSr.out.kept hw)).mono ?_
              rintro e w7 ⟨rfl, hb⟩
              rw [HH.out]
              exact ⟨_, rfl, hb, rfl, fun h => by cases h⟩
            refine And.intro (fun w hw hd => ?_) ?_
            · have d10 := hd 10 (by decide) rfl
              change vs 10 = _ at d10
              have d17 := hd 17 (by decide) rfl
              change vs 17 = _ at d17
              refine ite_yes rfl ?_
              simp only [Gives]
              go_simp
              exact ⟨Below.refl _ _, rfl, fun h => by cases h⟩
            exact trivial
          intro vs wt hw hd hne hlo
          have d0 := hd 0 (by decide)
          change vs 0 = _ at d0
          have d1 := hd 1 (by decide)
          change vs 1 = _ at d1
          have d2 := hd 2 (by decide)
          change vs 2 = _ at d2
          have d3 := hd 3 (by decide)
          change vs 3 = _ at d3
          have d4 := hd 4 (by decide)
          change vs 4 = _ at d4
          have d5 := hd 5 (by decide)
          change vs 5 = _ at d5
          have d6 := hd 6 (by decide)
          change vs 6 = _ at d6
          have d7 := hd 7 (by decide)
          change vs 7 = _ at d7
          have d8 := hd 8 (by decide)
          change vs 8 = _ at d8
          have d9 := hd 9 (by decide)
          change vs 9 = _ at d9
          have d10 := hd 10 (by decide)
          change vs 10 = _ at d10
          have d11 := hd 11 (by decide)
          change vs 11 = _ at d11
          have d12 := hd 12 (by decide)
          change vs 12 = _ at d12
          have d13 := hd 13 (by decide)
          change vs 13 = _ at d13
          have d14 := hd 14 (by decide)
          change vs 14 = _ at d14
          have d15 := hd 15 (by decide)
          change vs 15 = _ at d15
          have d16 := hd 16 (by decide)
          change vs 16 = _ at d16
          have d17 := hd 17 (by decide)
          change vs 17 = _ at d17
          have d18 := hd 18 (by decide)
          change vs 18 = _ at d18
          simp only [d0, d1, d2, d3, d4, d5, d6, d7, d8, d9, d10, d11, d12, d13, d14, d15, d16, d18, List.drop_succ_cons, List.drop_nil]
          have NN := NN.kept hw
          have c_NN := fun i => NN.cell i
          have f_NN := fun i => NN.free i
          clear hd hne hlo d0 d1 d2 d3 d4 d5 d6 d7 d8 d9 d10 d11 d12 d13 d14 d15 d16 d18
          simp only [Nat.zero_add, Nat.reduceAdd, d17]
          go_wp2_with fail
          go_ret
          exact ⟨by rw [Hf.out]; rfl, up_later HB.out hw⟩
        | true =>
          have HH := Lib.hid (show hadB ls (q : Int) (k : Int) = false by rw [had_free (n := l.length) k1, c3]; rfl)
          have HC3 := Lib.hid c3
          clear c3
          go_wp2_with fail
          apply wp_region_by 19 [(Fact.eq _), (Fact.eq _), (Fact.eq _), (Fact.eq _), (Fact.eq _), (Fact.eq _), (Fact.eq _), (Fact.eq _), (Fact.eq _), (Fact.eq _), (Fact.eq _), (Fact.eq _), (Fact.eq _), (Fact.eq _), (Fact.eq _), (Fact.eq _), (Fact.eq _), (Fact.eq (.bool false)), (Fact.eq _)]
          case hm => kernel_rfl
          case hB => kernel_rfl
          case hA => (intro vs; simp only [List.take_succ_cons, List.take_zero, putAll, if_true, Act.put, List.setIfInBounds_toArray, List.set_cons_zero, List.set_cons_succ]; exact rfl)
          case hstep =>
            intro vs
            refine And.intro (fun w hw hd => ?_) ?_
            · refine ite_yes rfl ?_
              simp only [Gives]
              go_simp
              exact ⟨Below.refl _ _, rfl, fun h => by cases h⟩
            refine And.intro (fun w hw hd => ?_) ?_
            · refine ite_yes rfl ?_
              simp only [Gives]
              go_simp
              exact ⟨Below.refl _ _, rfl, fun h => by cases h⟩
            refine And.intro (fun w hw hd => ?_) ?_
            · have d0 := hd 0 (by decide) rfl
              change vs 0 = _ at d0
              have d1 := hd 1 (by decide) rfl
              change vs 1 = _ at d1
              refine ite_yes rfl ?_
              simp only [Gives]
              go_simp
              exact ⟨Below.refl _ _, rfl, fun h => by cases h⟩
            refine And.intro (fun w hw hd => ?_) ?_
            · have d2 := hd 2 (by decide) rfl
              change vs 2 = _ at d2
              refine ite_yes rfl ?_
              have c_NN := fun i => (NN.kept hw).cell i
              have q0 : w.cell? ⟨b1, o1 + k, none⟩ = some (.int .i64 (q : Int)) := by simpa using (HR.out.kept hw).cellAt Hx.out (j := 0) rfl
              simp only [Gives]
              go_simp
              exact ⟨Below.refl _ _, rfl, fun h => by cases h⟩
            refine And.intro (fun w hw hd => ?_) ?_
            · refine ite_yes rfl ?_
              simp only [Gives]
              go_simp
              exact ⟨Below.refl _ _, rfl, fun h => by cases h⟩
            refine And.intro (fun w hw hd => ?_) ?_
            · have d4 := hd 4 (by decide) rfl
              change vs 4 = _ at d4
              refine ite_yes rfl ?_
              have c_NN := fun i => (NN.kept hw).cell i
              simp only [Gives]
              go_simp
              exact ⟨Below.refl _ _, rfl, fun h => by cases h⟩
            refine And.intro (fun w hw hd => ?_) ?_
            · have d5 := hd 5 (by decide) rfl
              change vs 5 = _ at d5
              refine ite_yes rfl ?_
              simp only [Gives]
              go_simp
              exact ⟨Below.refl _ _, rfl, fun h => by cases h⟩
            refine And.intro (fun w hw hd => ?_) ?_
            · have d6 := hd 6 (by decide) rfl
              change vs 6 = _ at d6
              refine ite_yes rfl ?_
              simp only [Gives]
              go_simp
              exact ⟨Below.refl _ _, rfl, fun h => by cases h⟩
            refine And.intro (fun w hw hd => ?_) ?_
            · have d3 := hd 3 (by decide) rfl
              change vs 3 = _ at d3
              have d7 := hd 7 (by decide) rfl
              change vs 7 = _ at d7
              refine ite_yes rfl ?_
              simp only [Gives]
              go_simp
              refine (In_b q 0 ((b.ks.length : Int) - 1) true w HI.out).mono ?_
              rintro e w1 ⟨rfl, hb⟩
              exact ⟨_, rfl, hb, rfl, fun h => by cases h⟩
            refine And.intro (fun w hw hd => ?_) ?_
            · have d8 := hd 8 (by decide) rfl
              change vs 8 = _ at d8
              refine ite_yes rfl ?_
              simp only [Gives]
              go_simp
              exact ⟨Below.refl _ _, rfl, fun h => by cases h⟩
            refine And.intro (fun w hw hd => ?_) ?_
            · have d9 := hd 9 (by decide) rfl
              change vs 9 = _ at d9
              refine ite_yes rfl ?_
              simp only [Gives]
              go_simp
              exact ⟨Below.refl _ _, rfl, fun h => by cases h⟩
            refine And.intro (fun w hw hd => ?_) ?_
            · have d10 := hd 10 (by decide) rfl
              change vs 10 = _ at d10
              refine ite_yes (by simp [Region.wanted, yielded, d10]) ?_
              simp only [Gives]
              go_simp
              exact ⟨Below.refl _ _, rfl, fun h => by cases h⟩
            refine And.intro (fun w hw hd => ?_) ?_
            · have d10 := hd 10 (by decide) rfl
              change vs 10 = _ at d10
              refine ite_yes (by simp [Region.wanted, yielded, d10]) ?_
              simp only [Gives]
              go_simp
              exact ⟨Below.refl _ _, rfl, fun h => by cases h⟩
            refine And.intro (fun w hw hd => ?_) ?_
            · have d10 := hd 10 (by decide) rfl
              change vs 10 = _ at d10
              refine ite_yes (by simp [Region.wanted, yielded, d10]) ?_
              simp only [Gives]
              go_simp
              exact ⟨Below.refl _ _, rfl, fun h => by cases h⟩
            refine And.intro (fun w hw hd => ?_) ?_
            · have d12 := hd 12 (by decide) rfl
              change vs 12 = _ at d12
              have d13 := hd 13 (by decide) rfl
              change vs 13 = _ at d13
              have d10 := hd 10 (by decide) rfl
              change vs 10 = _ at d10
              refine ite_yes (by simp [Region.wanted, yielded, d10]) ?_
              simp only [Gives]
              go_simp
              exact ⟨Below.refl _ _, rfl, fun h => by cases h⟩
            refine And.intro (fun w hw hd => ?_) ?_
            · have d14 := hd 14 (by decide) rfl
              change vs 14 = _ at d14
              have d10 := hd 10 (by decide) rfl
              change vs 10 = _ at d10
              refine ite_yes (by simp [Region.wanted, yielded, d10]) ?_
              have c_NN := fun i => (NN.kept hw).cell i
              have q0 : w.cell? ⟨b1, o1 + k, none⟩ = some (.int .i64 (q : Int)) := by simpa using (HR.out.kept hw).cellAt Hx.out (j := 0) rfl
              simp only [Gives]
              go_simp
              exact ⟨Below.refl _ _, rfl, fun h => by cases h⟩
            refine And.intro (fun w hw hd => ?_) ?_
            · have d10 := hd 10 (by decide) rfl
              change vs 10 = _ at d10
              refine ite_yes (by simp [Region.wanted, yielded, d10]) ?_
              simp only [Gives]
              go_simp
              exact ⟨Below.refl _ _, rfl, fun h => by cases h⟩
            refine And.intro (fun w hw hd => ?_) ?_
            · have d11 := hd 11 (by decide) rfl
              change vs 11 = _ at d11
              have d15 := hd 15 (by decide) rfl
              change vs 15 = _ at d15
              have d16 := hd 16 (by decide) rfl
              change vs 16 = _ at d16
              have d10 := hd 10 (by decide) rfl
              change vs 10 = _ at d10
              refine ite_yes (by simp [Region.wanted, yielded, d10]) ?_
              simp only [Gives]
              go_simp
              refine (Had_any _ ls q k w (HSr.out.kept hw)).mono ?_
              rintro e w7 ⟨rfl, hb⟩
              rw [HH.out]
              exact ⟨_, rfl, hb, rfl, fun h => by cases h⟩
            refine And.intro (fun w hw hd => ?_) ?_
            · have d10 := hd 10 (by decide) rfl
              change vs 10 = _ at d10
              have d17 := hd 17 (by decide) rfl
              change vs 17 = _ at d17
              refine ite_yes rfl ?_
              simp only [Gives]
              go_simp
              exact ⟨Below.refl _ _, rfl, fun h => by cases h⟩
            exact trivial
          intro vs wt hw hd hne hlo
          have d0 := hd 0 (by decide)
          change vs 0 = _ at d0
          have d1 := hd 1 (by decide)
          change vs 1 = _ at d1
          have d2 := hd 2 (by decide)
          change vs 2 = _ at d2
          have d3 := hd 3 (by decide)
          change vs 3 = _ at d3
          have d4 := hd 4 (by decide)
          change vs 4 = _ at d4
          have d5 := hd 5 (by decide)
          change vs 5 = _ at d5
          have d6 := hd 6 (by decide)
          change vs 6 = _ at d6
          have d7 := hd 7 (by decide)
          change vs 7 = _ at d7
          have d8 := hd 8 (by decide)
          change vs 8 = _ at d8
          have d9 := hd 9 (by decide)
          change vs 9 = _ at d9
          have d10 := hd 10 (by decide)
          change vs 10 = _ at d10
          have d11 := hd 11 (by decide)
          change vs 11 = _ at d11
          have d12 := hd 12 (by decide)
          change vs 12 = _ at d12
          have d13 := hd 13 (by decide)
          change vs 13 = _ at d13
          have d14 := hd 14 (by decide)
          change vs 14 = _ at d14
          have d15 := hd 15 (by decide)
          change vs 15 = _ at d15
          have d16 := hd 16 (by decide)
          change vs 16 = _ at d16
          have d17 := hd 17 (by decide)
          change vs 17 = _ at d17
          have d18 := hd 18 (by decide)
          change vs 18 = _ at d18
          simp only [d0, d1, d2, d3, d4, d5, d6, d7, d8, d9, d10, d11, d12, d13, d14, d15, d16, d18, List.drop_succ_cons, List.drop_nil]
          have NN := NN.kept hw
          have c_NN := fun i => NN.cell i
          have f_NN := fun i => NN.free i
          clear hd hne hlo d0 d1 d2 d3 d4 d5 d6 d7 d8 d9 d10 d11 d12 d13 d14 d15 d16 d18
          simp only [Nat.zero_add, Nat.reduceAdd, d17]
          have U1 := Lib.hid (U.out.kept hw)
          have HB1 := Lib.hid (up_later HB.out hw)
          have HR1 := Lib.hid (HR.out.kept hw)
          have q0 : wt.cell? ⟨b1, o1 + k, none⟩ = some (.int .i64 (q : Int)) := by simpa using HR1.out.cellAt Hx.out (j := 0) rfl
          have hcq := cnt_in (l.take k) q
          have hlk : (l.take k).length ≤ 1000 := by rw [List.length_take]; omega
          have q1 : wt.cell? ⟨g, q, none⟩ = some (.int .i64 (cnt (l.take k) q)) := by rw [U1.out.cell q]; exact usedC_at hq5
          have q2 : wt.frozen? ⟨g, q, none⟩ = false := U1.out.free q
          obtain ⟨c, hc⟩ : ∃ c, cnt (l.take k) q = c := ⟨_, rfl⟩
          rw [hc] at hcq q1
          have hW : IntKind.i64.wrap (c + 1) = c + 1 := wrapK_in _ 3000 (by omega) (by omega)
          have j0 : (0 : Int) ≤ (q : Int) := by omega
          have j1 : (q : Int) < 5 := by omega
          have U2 := Lib.hid (show Box (wt.setCell ⟨g, q, none⟩ (iv (c + 1))) g 115 (usedC (l.take (k + 1))) by
            have := U1.out.put q (iv (c + 1))
            rw [← hc, usedC_put hq5, ← take_one Hx.out] at this
            rw [← hc]
            exact this)
          have hcs : cnt (l.take (k + 1)) q = c + 1 := by rw [take_one Hx.out, cnt_append, if_pos rfl, hc]
          have N2 := Lib.hid (NN.far (p := ⟨g, q, none⟩) (by simp; omega) (iv (c + 1)))
          have HB2 := Lib.hid (up_put HB1.out (p := ⟨g, q, none⟩) (by simp; omega) (iv (c + 1)))
          have HR2 := Lib.hid (HV.out.kept HB2.out)
          have q3 : (wt.setCell ⟨g, q, none⟩ (iv (c + 1))).cell? ⟨b1, o1 + k, none⟩ = some (.int .i64 (q : Int)) := by simpa using HR2.out.cellAt Hx.out (j := 0) rfl
          have q4 : (wt.setCell ⟨g, q, none⟩ (iv (c + 1))).cell? ⟨g, q, none⟩ = some (.int .i64 (c + 1)) := by rw [U2.out.cell q, usedC_at hq5, hcs]
          have Hcs := Lib.hid hcs
          have Hc := Lib.hid hc
          clear hc hcs hw NN c_NN f_NN U N HB d17
          by_cases hcm : most < c + 1
          · have Hf := Lib.hid (show okB b ls most l = false by unfold okB; rw [usedB_part (k := k + 1) hq5 (by rw [Hcs.out]; exact hcm)]; simp)
            go_wp2_with fail
            go_ret
            exact ⟨by rw [Hf.out]; rfl, HB2.out⟩
          · have HFn := Lib.hid (show (∀ x ∈ l.take (k + 1), belowB x b.ks.length = true) ∧ freesB l.length ls 0 (l.take (k + 1)) = true ∧ ∀ j, j < 5 → cnt (l.take (k + 1)) j ≤ most from by
              obtain ⟨f1, f2, f3⟩ := HF.out
              rw [take_one Hx.out]
              refine ⟨fun x hx => ?_, ?_, fun j hj => ?_⟩
              · rcases List.mem_append.1 hx with h | h
                · exact f1 x h
                · rw [List.mem_singleton.1 h]; exact HBl.out
              · rw [freesB_append, f2, List.length_take, show 0 + min k l.length = k by omega]
                simp [freesB, HC3.out]
              · rw [cnt_append]
                have := f3 j hj
                split
                · rename_i e; subst e; rw [Hc.out]; omega
                · omega)
            go_wp2_with fail
            clear q0 q1 q2 q3 q4
            go_roundw
            case rel => exact ⟨k + 1, by omega, by go_num, HFn.out, U2.out, N2.out, HB2.out⟩
            case measure => simp [intOf]; omega
    · have hk' : k = l.length := by omega
      have hf := HF.out
      rw [hk', List.take_length] at hf
      have Hf := Lib.hid (show okB b ls most l = true by
        unfold okB
        rw [Hlen.out, hf.2.1, usedB_iff.2 hf.2.2, List.all_eq_true.2 hf.1]
        rfl)
      clear hf hk'
      go_wp2_with fail
      go_ret
      exact ⟨by rw [Hf.out]; rfl, HB.out⟩
theorem right_nat {b : Bk} {ls : List Ls} {most : Int} {l : List Int} (h : rightB b ls most l = true) : ∃ p : List Nat, l = p.map fun k : Nat => (k : Int) := by
  simp only [rightB, okB, Bool.and_eq_true, decide_eq_true_eq] at h
  have hbl := List.all_eq_true.1 h.2.1
  refine ⟨l.map Int.toNat, ?_⟩
  rw [List.map_map]
  symm
  conv => rhs; rw [← List.map_id l]
  apply List.map_congr_left
  intro x hx
  have := belowB_iff.1 (hbl x hx)
  show ((x.toNat : Nat) : Int) = x
  omega
/-- Against a right plan the best one holds. -/
theorem best_holds {b : Bk} {ls : List Ls} {most : Int} {l : List Int} (hok : BookOK b) (h0 : 0 ≤ most) (h : rightB b ls most l = true) :
    (bestI b ls most).2 < 8 ∧ (bestI b ls most).2 ≤ chL (-1) l ∧ (chL (-1) l ≤ (bestI b ls most).2 → beforeB l (bestI b ls most).1 = false) := by
  obtain ⟨p, rfl⟩ := right_nat h
  have hr := (right_iff hok.k2 h0).1 h
  have hc := bestI_le hr
  have h8 : costP eve0 p < 8 := cost_eve (by rw [hr.1]; exact hok.d2)
  have e : chL (-1) (p.map fun k : Nat => (k : Int)) = costP eve0 p := (cost_ch p eve0).symm
  refine ⟨by omega, by rw [e]; exact hc, fun h1 => ?_⟩
  have hf := best_first p eve0 hr.2
  rw [hr.1] at hf
  rw [e] at h1
  exact hf h1 (show (bestI b ls most).2 < 8 by omega)
/-- The best plan, if there is one. -/
theorem best_right {b : Bk} {ls : List Ls} {most : Int} (hok : BookOK b) (h0 : 0 ≤ most) (h : (bestI b ls most).2 ≠ 8) :
    rightB b ls most (bestI b ls most).1 = true ∧ chL (-1) (bestI b ls most).1 = (bestI b ls most).2 ∧ ∀ x ∈ (bestI b ls most).1, 0 ≤ x := by
  have hl := bestI_lim b ls most
  obtain ⟨p, p1, p2, p3⟩ := bestI_ok (b := b) (ls := ls) (most := most) (by omega)
  rw [p1]
  refine ⟨(right_iff hok.k2 h0).2 p2, ?_, fun x hx => ?_⟩
  · rw [← p3, cost_ch]; rfl
  · obtain ⟨k, _, rfl⟩ := List.mem_map.1 hx
    omega
end Go.Proofs.Ytoenhkhfpbglhaa
