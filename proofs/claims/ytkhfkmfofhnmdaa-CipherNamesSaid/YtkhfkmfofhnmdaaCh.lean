/-
  WALKS of '(desk).check', '(desk).indicator', '(desk).changed' (in both ways), '(desk).coded', '(desk).decoded'. Conditions: the book is valid, the lists are short.
-/
import Derived.Test.YtkhfkmfofhnmdaaCg
import Derived.Test.YtkhfkmfofhnmdaaCp
namespace Go.Proofs.Ytkhfkmfofhnmdaa
open Go.RowKit

theorem int_info : (Try.prog.info? 3).map (fun i => (i.zero, i.size, i.bytes)) = some (some (.int .i64 0), 1, 8) := by kernel_rfl

theorem sumI_take : ∀ (i : Nat) (l : List Int) (k : Nat) (x : Int), l[k]? = some x → sumI i (l.take (k + 1)) = sumI i (l.take k) + x * (i + k + 1 : Nat)
  | _, [], _, _, h => by simp at h
  | i, a :: l, 0, x, h => by
    have : a = x := by simpa using h
    subst this
    simp [sumI]
  | i, a :: l, k + 1, x, h => by
    have ih := sumI_take (i + 1) l k x (by simpa using h)
    simp only [List.take_succ_cons, sumI] at ih ⊢
    rw [ih, show i + 1 + k + 1 = i + (k + 1) + 1 by omega]
    omega
theorem sumI_in : ∀ (i : Nat) (l : List Int), (∀ x ∈ l, 0 ≤ x ∧ x ≤ 1000) → i + l.length ≤ 100 → 0 ≤ sumI i l ∧ sumI i l ≤ 100000 * l.length
  | _, [], _, _ => by simp [sumI]
  | i, a :: l, h, hl => by
    have ih := sumI_in (i + 1) l (fun x hx => h x (List.mem_cons_of_mem _ hx)) (by simp at hl; omega)
    have ha := h a (List.mem_cons_self ..)
    have h1 : (0 : Int) ≤ ((i + 1 : Nat) : Int) ∧ ((i + 1 : Nat) : Int) ≤ 100 := by simp at hl; omega
    have m := mul_in a ((i + 1 : Nat) : Int) 1000 100 (by omega) ha.2 (by omega) h1.2
    have m0 := Int.mul_nonneg ha.1 h1.1
    simp only [sumI, List.length_cons]
    omega

set_option maxRecDepth 100000 in
set_option maxHeartbeats 1000000 in
theorem check_any (n ws : Int) (v1 v2 v3 v : Value) (l : List Int) (w : World) (hn : 1 ≤ n) (hl : IntsAt w v l) (hin : ∀ x ∈ l, 0 ≤ x ∧ x ≤ 1000) (hlen : l.length ≤ 100) :
    Calls Try.prog 92 #[.agg #[iv n, iv ws, v1, v2, v3], v] w fun r w' => r = .returned (.int .i64 (checkI n l)) ∧ Below w.heap.size w w' := by
  obtain ⟨_, A, cap, rfl, _, _⟩ := hl.form
  have HL := Lib.hid hl
  clear hl
  have hz : ¬ n = 0 := by omega
  have hz' : (n == 0) = false := by rw [beq_eq_false_iff_ne]; omega
  go_enter Try.func92, Try.ntmps92
  go_wp2_with fail
  have B2 := Box.new (w := w) (t := 98) (cs := #[iv n, iv ws, v1, v2, v3]) rfl
  have hB : Below w.heap.size w (w.alloc (.cells #[iv n, iv ws, v1, v2, v3] 98)) := up_alloc up0 _
  go_loopw [5, 10] (fun s i wr => ∃ k : Nat, k ≤ l.length ∧ i = .int .i64 k ∧ s = .int .i64 (sumI 0 (l.take k)) ∧ Below w.heap.size w wr ∧ Box wr w.heap.size 98 #[iv n, iv ws, v1, v2, v3]) (fun _ i _ => l.length - (intOf i).toNat)
  case atStart => exact ⟨0, by omega, rfl, rfl, hB, B2⟩
  case round =>
    clear hB B2
    obtain ⟨k, hk, rfl, rfl, hB, B2⟩ := hrel
    by_cases hlt : k < l.length
    · obtain ⟨x, hx⟩ : ∃ x, l[k]? = some x := ⟨_, List.getElem?_eq_getElem hlt⟩
      obtain ⟨b, off, rfl, hb, hc⟩ := (HL.out.kept hB).at rfl hx
      have q0 : wr.cell? ⟨b, off + k, none⟩ = some (.int .i64 x) := by simpa using hc 0 _ rfl
      have hs := sumI_in 0 (l.take k) (fun x hx => hin x (List.mem_of_mem_take hx)) (by simp; omega)
      have hxi := hin x (List.mem_of_getElem? hx)
      have hm := mul_in x ((k : Int) + 1) 1000 100 (by omega) hxi.2 (by omega) (by omega)
      have H := Lib.hid (show wrap64 (sumI 0 (l.take k) + wrap64 (x * ((k : Int) + 1))) = sumI 0 (l.take (k + 1)) by
        rw [sumI_take 0 l k x hx, wrap_in _ 100000 (by omega) hm]
        have e : ((0 + k + 1 : Nat) : Int) = (k : Int) + 1 := by omega
        rw [e]
        have h2 := hs.2
        rw [List.length_take] at h2
        exact wrap_in _ 100000000 (by omega) (by omega))
      clear hc hx hs hxi hm hin
      go_wp2_with fail
      go_roundw
      case rel => exact ⟨k + 1, by omega, by go_num, by rw [H.out], hB, B2⟩
      case measure => simp [intOf]; omega
    · have hs := sumI_in 0 l hin (by omega)
      have H := Lib.hid (show (sumI 0 (l.take k)).tmod n = checkI n l by
        rw [List.take_of_length_le (by omega)]
        exact Int.tmod_eq_emod_of_nonneg hs.1)
      have c2 := fun i => B2.cell i
      clear hs hin
      go_wp2_with fail
      go_ret
      exact ⟨ret_int H.out, hB⟩

set_option maxRecDepth 100000 in
set_option maxHeartbeats 1000000 in
theorem indicator_any (v1 v2 v3 : Value) (b : Bk) (day : Nat) (w : World) (hok : BookOK b) (hL : BookAt w v1 v2 b) (hd : day < b.ds.length) :
    Calls Try.prog 90 #[deskV b v1 v2 v3, iv day] w fun r w' => r = .returned (.int .i64 (indI b day)) ∧ Below w.heap.size w w' := by
  obtain ⟨_, A1, cap1, rfl, _, _⟩ := hL.ks.form
  obtain ⟨_, A2, cap2, rfl, _, _⟩ := hL.ds.form
  obtain ⟨d, hx⟩ : ∃ x, b.ds[day]? = some x := ⟨_, List.getElem?_eq_getElem hd⟩
  obtain ⟨bd, od, rfl, _, _⟩ := hL.ds.at rfl hx
  have hdi := hok.ds d (List.mem_of_getElem? hx)
  have hk1 := hok.k1
  have hk2 := hok.k2
  have hd2 := hok.d2
  have HD := Lib.hid hL.ds
  have HX := Lib.hid hx
  have H := Lib.hid (show (d + (day : Int)).tmod (b.ks.length : Int) = indI b day by
    unfold indI
    rw [List.getD_eq_getElem?_getD, hx]
    exact Int.tmod_eq_emod_of_nonneg (by omega))
  have hz : ¬ (b.ks.length : Int) = 0 := by omega
  have hz' : ((b.ks.length : Int) == 0) = false := by rw [beq_eq_false_iff_ne]; omega
  have hz2 : ¬ b.ks = [] := fun e => by rw [e] at hk1; simp at hk1
  have hW : IntKind.i64.wrap (d + (day : Int)) = d + (day : Int) := wrapK_in _ 100 (by omega) (by omega)
  have j0 : (0 : Int) ≤ (day : Int) := by omega
  have j1 : (day : Int) < (b.ds.length : Int) := by omega
  obtain ⟨dd1, dd2⟩ := hdi
  clear hL hx hok
  unfold deskV
  go_enter Try.func90, Try.ntmps90
  go_wp2_with fail
  have B2 := Box.new (w := w) (t := 98) (cs := #[iv b.n, iv b.w, .slice A1 b.ks.length cap1, .slice (some ⟨bd, od, none⟩) b.ds.length cap2, v3]) rfl
  have HD := Lib.hid (HD.out.kept (up_alloc up0 (.cells #[iv b.n, iv b.w, .slice A1 b.ks.length cap1, .slice (some ⟨bd, od, none⟩) b.ds.length cap2, v3] 98)))
  apply wp_region_by 14 [(Fact.eq _), (Fact.eq _), (Fact.eq _), (Fact.eq _), (Fact.eq _), (Fact.eq _), (Fact.eq _), (Fact.eq _), (Fact.eq _), (Fact.eq _), (Fact.eq _), (Fact.eq _), (Fact.eq _), (Fact.eq _)]
  case hm => kernel_rfl
  case hB => kernel_rfl
  case hA => (intro vs; simp only [List.take_succ_cons, List.take_zero, putAll, if_true, Act.put, List.setIfInBounds_toArray, List.set_cons_zero, List.set_cons_succ]; exact rfl)
  case hstep =>
    intro vs
    refine And.intro (fun w hw hd => ?_) ?_
    · refine ite_yes rfl ?_
      simp only [Gives]
      go_simp
      exact ⟨Below.refl _ _, rfl, fun h => by cases h⟩
    refine And.intro (fun w hw hd => ?_) ?_
    · have d0 := hd 0 (by decide) rfl
      change vs 0 = _ at d0
      refine ite_yes rfl ?_
      simp only [Gives]
      go_simp
      exact ⟨Below.refl _ _, rfl, fun h => by cases h⟩
    refine And.intro (fun w hw hd => ?_) ?_
    · have d1 := hd 1 (by decide) rfl
      change vs 1 = _ at d1
      refine ite_yes rfl ?_
      have c_B2 := fun i => (B2.kept hw).cell i
      simp only [Gives]
      go_simp
      exact ⟨Below.refl _ _, rfl, fun h => by cases h⟩
    refine And.intro (fun w hw hd => ?_) ?_
    · refine ite_yes rfl ?_
      simp only [Gives]
      go_simp
      exact ⟨Below.refl _ _, rfl, fun h => by cases h⟩
    refine And.intro (fun w hw hd => ?_) ?_
    · have d2 := hd 2 (by decide) rfl
      change vs 2 = _ at d2
      have d3 := hd 3 (by decide) rfl
      change vs 3 = _ at d3
      refine ite_yes rfl ?_
      simp only [Gives]
      go_simp
      exact ⟨Below.refl _ _, rfl, fun h => by cases h⟩
    refine And.intro (fun w hw hd => ?_) ?_
    · have d4 := hd 4 (by decide) rfl
      change vs 4 = _ at d4
      refine ite_yes rfl ?_
      have c_B2 := fun i => (B2.kept hw).cell i
      have q0 : w.cell? ⟨bd, od + day, none⟩ = some (.int .i64 d) := by simpa using (HD.out.kept hw).cellAt HX.out (j := 0) rfl
      simp only [Gives]
      go_simp
      exact ⟨Below.refl _ _, rfl, fun h => by cases h⟩
    refine And.intro (fun w hw hd => ?_) ?_
    · refine ite_yes rfl ?_
      simp only [Gives]
      go_simp
      exact ⟨Below.refl _ _, rfl, fun h => by cases h⟩
    refine And.intro (fun w hw hd => ?_) ?_
    · have d5 := hd 5 (by decide) rfl
      change vs 5 = _ at d5
      have d6 := hd 6 (by decide) rfl
      change vs 6 = _ at d6
      refine ite_yes rfl ?_
      simp only [Gives]
      go_simp
      exact ⟨Below.refl _ _, rfl, fun h => by cases h⟩
    refine And.intro (fun w hw hd => ?_) ?_
    · refine ite_yes rfl ?_
      simp only [Gives]
      go_simp
      exact ⟨Below.refl _ _, rfl, fun h => by cases h⟩
    refine And.intro (fun w hw hd => ?_) ?_
    · have d8 := hd 8 (by decide) rfl
      change vs 8 = _ at d8
      refine ite_yes rfl ?_
      simp only [Gives]
      go_simp
      exact ⟨Below.refl _ _, rfl, fun h => by cases h⟩
    refine And.intro (fun w hw hd => ?_) ?_
    · have d9 := hd 9 (by decide) rfl
      change vs 9 = _ at d9
      refine ite_yes rfl ?_
      have c_B2 := fun i => (B2.kept hw).cell i
      simp only [Gives]
      go_simp
      exact ⟨Below.refl _ _, rfl, fun h => by cases h⟩
    refine And.intro (fun w hw hd => ?_) ?_
    · have d10 := hd 10 (by decide) rfl
      change vs 10 = _ at d10
      refine ite_yes rfl ?_
      simp only [Gives]
      go_simp
      exact ⟨Below.refl _ _, rfl, fun h => by cases h⟩
    refine And.intro (fun w hw hd => ?_) ?_
    · have d7 := hd 7 (by decide) rfl
      change vs 7 = _ at d7
      have d11 := hd 11 (by decide) rfl
      change vs 11 = _ at d11
      refine ite_yes rfl ?_
      simp only [Gives]
      go_simp
      exact ⟨Below.refl _ _, rfl, fun h => by cases h⟩
    refine And.intro (fun w hw hd => ?_) ?_
    · have d12 := hd 12 (by decide) rfl
      change vs 12 = _ at d12
      refine ite_yes rfl ?_
      simp only [Gives]
      go_simp
      exact ⟨Below.refl _ _, rfl, fun h => by cases h⟩
    exact trivial
  intro vs wt hw hd hne hlo
  have d0 := hd 0 (by decide)
  change vs 0 = _ at d0
  have d1 := hd 1 (by decide)
  change vs 1 = _ at d1
  have d2 := hd 2 (by decide)
  change vs 2 = _ at d2
  have d3 := hd 3 (by decide)
  change vs 3 = _ at d3
  have d4 := hd 4 (by decide)
  change vs 4 = _ at d4
  have d5 := hd 5 (by decide)
  change vs 5 = _ at d5
  have d6 := hd 6 (by decide)
  change vs 6 = _ at d6
  have d7 := hd 7 (by decide)
  change vs 7 = _ at d7
  have d8 := hd 8 (by decide)
  change vs 8 = _ at d8
  have d9 := hd 9 (by decide)
  change vs 9 = _ at d9
  have d10 := hd 10 (by decide)
  change vs 10 = _ at d10
  have d11 := hd 11 (by decide)
  change vs 11 = _ at d11
  have d12 := hd 12 (by decide)
  change vs 12 = _ at d12
  have d13 := hd 13 (by decide)
  change vs 13 = _ at d13
  simp only [d0, d1, d2, d3, d4, d5, d6, d7, d8, d9, d10, d11, d12, d13, List.drop_succ_cons, List.drop_nil]
  have B2 := B2.kept hw
  have c_B2 := fun i => B2.cell i
  have f_B2 := fun i => B2.free i
  clear hd hne hlo d0 d1 d2 d3 d4 d5 d6 d7 d8 d9 d10 d11 d12 d13
  go_wp2_with fail
  go_ret
  exact ⟨ret_int (by first | exact H.out | simpa using H.out), up_later (up_alloc up0 _) hw⟩

end Go.Proofs.Ytkhfkmfofhnmdaa
