/-
  WALKS of the reference's Indicator, CodeOf, Check, Means. Conditions: the book is valid, lists are short.
-/
import Derived.Test.YtkhfkmfofhnmdaaEa
import Derived.Test.YtkhfkmfofhnmdaaDs
import Derived.Deep.CutBlock
namespace Go.Proofs.Ytkhfkmfofhnmdaa
open Go.RowKit Go.Shelf
attribute [local go_sem] Oper.semAt_some

set_option maxRecDepth 100000 in
set_option maxHeartbeats 1000000 in
theorem RIndicator_any (v1 v2 : Value) (b : Bk) (day : Nat) (w : World) (hok : BookOK b) (hL : BookAt w v1 v2 b) (hd : day < b.ds.length) :
    Calls Try.prog 61 #[.agg #[iv b.n, iv b.w, v1, v2], iv day] w fun r w' => r = .returned (iv (indI b day)) ∧ Below w.heap.size w w' := by
  obtain ⟨_, A1, cap1, rfl, _, _⟩ := hL.ks.form
  obtain ⟨_, A2, cap2, rfl, _, _⟩ := hL.ds.form
  obtain ⟨d, hx⟩ : ∃ x, b.ds[day]? = some x := ⟨_, List.getElem?_eq_getElem hd⟩
  obtain ⟨bd, od, rfl, _, _⟩ := hL.ds.at rfl hx
  have hdi := hok.ds d (List.mem_of_getElem? hx)
  have hk1 := hok.k1
  have hk2 := hok.k2
  have hd2 := hok.d2
  have HD := Lib.hid hL.ds
  have HX := Lib.hid hx
  have H := Lib.hid (show (d + (day : Int)).tmod (b.ks.length : Int) = indI b day by
    unfold indI
    rw [List.getD_eq_getElem?_getD, hx]
    exact Int.tmod_eq_emod_of_nonneg (by omega))
  have hz : ¬ (b.ks.length : Int) = 0 := by omega
  have hz' : ((b.ks.length : Int) == 0) = false := by rw [beq_eq_false_iff_ne]; omega
  have hz2 : ¬ b.ks = [] := fun e => by rw [e] at hk1; simp at hk1
  have hW : IntKind.i64.wrap (d + (day : Int)) = d + (day : Int) := wrapK_in _ 100 (by omega) (by omega)
  have j0 : (0 : Int) ≤ (day : Int) := by omega
  have j1 : (day : Int) < (b.ds.length : Int) := by omega
  obtain ⟨dd1, dd2⟩ := hdi
  clear hL hx hok
  go_enter Try.func61, Try.ntmps61
  go_wp2_with fail
  have B2 := Box.new (w := w) (t := 25) (cs := #[iv b.n, iv b.w, .slice A1 b.ks.length cap1, .slice (some ⟨bd, od, none⟩) b.ds.length cap2]) rfl
  have HD := Lib.hid (HD.out.kept (up_alloc up0 (.cells #[iv b.n, iv b.w, .slice A1 b.ks.length cap1, .slice (some ⟨bd, od, none⟩) b.ds.length cap2] 25)))
  apply wp_region_by 12 [(Fact.eq _), (Fact.eq _), (Fact.eq _), (Fact.eq _), (Fact.eq _), (Fact.eq _), (Fact.eq _), (Fact.eq _), (Fact.eq _), (Fact.eq _), (Fact.eq _), (Fact.eq _)]
  case hm => kernel_rfl
  case hB => kernel_rfl
  case hA => (intro vs; simp only [List.take_succ_cons, List.take_zero, putAll, if_true, Act.put, List.setIfInBounds_toArray, List.set_cons_zero, List.set_cons_succ]; exact rfl)
  case hstep =>
    intro vs
    refine And.intro (fun w hw hd => ?_) ?_
    · refine ite_yes rfl ?_
      simp only [Gives]
      go_simp
      exact ⟨Below.refl _ _, rfl, fun h => by cases h⟩
    refine And.intro (fun w hw hd => ?_) ?_
    · have d0 := hd 0 (by decide) rfl
      change vs 0 = _ at d0
      refine ite_yes rfl ?_
      have c_B2 := fun i => (B2.kept hw).cell i
      simp only [Gives]
      go_simp
      exact ⟨Below.refl _ _, rfl, fun h => by cases h⟩
    refine And.intro (fun w hw hd => ?_) ?_
    · refine ite_yes rfl ?_
      simp only [Gives]
      go_simp
      exact ⟨Below.refl _ _, rfl, fun h => by cases h⟩
    refine And.intro (fun w hw hd => ?_) ?_
    · have d1 := hd 1 (by decide) rfl
      change vs 1 = _ at d1
      have d2 := hd 2 (by decide) rfl
      change vs 2 = _ at d2
      refine ite_yes rfl ?_
      simp only [Gives]
      go_simp
      exact ⟨Below.refl _ _, rfl, fun h => by cases h⟩
    refine And.intro (fun w hw hd => ?_) ?_
    · have d3 := hd 3 (by decide) rfl
      change vs 3 = _ at d3
      refine ite_yes rfl ?_
      have c_B2 := fun i => (B2.kept hw).cell i
      have q0 : w.cell? ⟨bd, od + day, none⟩ = some (.int .i64 d) := by simpa using (HD.out.kept hw).cellAt HX.out (j := 0) rfl
      simp only [Gives]
      go_simp
      exact ⟨Below.refl _ _, rfl, fun h => by cases h⟩
    refine And.intro (fun w hw hd => ?_) ?_
    · refine ite_yes rfl ?_
      simp only [Gives]
      go_simp
      exact ⟨Below.refl _ _, rfl, fun h => by cases h⟩
    refine And.intro (fun w hw hd => ?_) ?_
    · have d4 := hd 4 (by decide) rfl
      change vs 4 = _ at d4
      have d5 := hd 5 (by decide) rfl
      change vs 5 = _ at d5
      refine ite_yes rfl ?_
      simp only [Gives]
      go_simp
      exact ⟨Below.refl _ _, rfl, fun h => by cases h⟩
    refine And.intro (fun w hw hd => ?_) ?_
    · refine ite_yes rfl ?_
      simp only [Gives]
      go_simp
      exact ⟨Below.refl _ _, rfl, fun h => by cases h⟩
    refine And.intro (fun w hw hd => ?_) ?_
    · have d7 := hd 7 (by decide) rfl
      change vs 7 = _ at d7
      refine ite_yes rfl ?_
      have c_B2 := fun i => (B2.kept hw).cell i
      simp only [Gives]
      go_simp
      exact ⟨Below.refl _ _, rfl, fun h => by cases h⟩
    refine And.intro (fun w hw hd => ?_) ?_
    · have d8 := hd 8 (by decide) rfl
      change vs 8 = _ at d8
      refine ite_yes rfl ?_
      simp only [Gives]
      go_simp
      exact ⟨Below.refl _ _, rfl, fun h => by cases h⟩
    refine And.intro (fun w hw hd => ?_) ?_
    · have d6 := hd 6 (by decide) rfl
      change vs 6 = _ at d6
      have d9 := hd 9 (by decide) rfl
      change vs 9 = _ at d9
      refine ite_yes rfl ?_
      simp only [Gives]
      go_simp
      exact ⟨Below.refl _ _, rfl, fun h => by cases h⟩
    refine And.intro (fun w hw hd => ?_) ?_
    · have d10 := hd 10 (by decide) rfl
      change vs 10 = _ at d10
      refine ite_yes rfl ?_
      simp only [Gives]
      go_simp
      exact ⟨Below.refl _ _, rfl, fun h => by cases h⟩
    exact trivial
  intro vs wt hw hd hne hlo
  have d0 := hd 0 (by decide)
  change vs 0 = _ at d0
  have d1 := hd 1 (by decide)
  change vs 1 = _ at d1
  have d2 := hd 2 (by decide)
  change vs 2 = _ at d2
  have d3 := hd 3 (by decide)
  change vs 3 = _ at d3
  have d4 := hd 4 (by decide)
  change vs 4 = _ at d4
  have d5 := hd 5 (by decide)
  change vs 5 = _ at d5
  have d6 := hd 6 (by decide)
  change vs 6 = _ at d6
  have d7 := hd 7 (by decide)
  change vs 7 = _ at d7
  have d8 := hd 8 (by decide)
  change vs 8 = _ at d8
  have d9 := hd 9 (by decide)
  change vs 9 = _ at d9
  have d10 := hd 10 (by decide)
  change vs 10 = _ at d10
  have d11 := hd 11 (by decide)
  change vs 11 = _ at d11
  simp only [d0, d1, d2, d3, d4, d5, d6, d7, d8, d9, d10, d11, List.drop_succ_cons, List.drop_nil]
  have B2 := B2.kept hw
  have c_B2 := fun i => B2.cell i
  have f_B2 := fun i => B2.free i
  clear hd hne hlo d0 d1 d2 d3 d4 d5 d6 d7 d8 d9 d10 d11
  go_wp2_with fail
  go_ret
  exact ⟨ret_int (by first | exact H.out | simpa using H.out), up_later (up_alloc up0 _) hw⟩

set_option maxRecDepth 100000 in
set_option maxHeartbeats 1000000 in
theorem RCodeOf_any (n ws : Int) (v1 v2 : Value) (k : Ky) (p i : Int) (w : World) (h1 : 1 ≤ n ∧ n ≤ 1000) (h2 : smallK k) (h5 : 0 ≤ p ∧ p ≤ 1000) (h6 : 0 ≤ i ∧ i ≤ 1000) :
    Calls Try.prog 62 #[.agg #[iv n, iv ws, v1, v2], .agg #[iv k.m, iv k.a, iv k.s], iv p, iv i] w fun r w' => r = .returned (iv (codeI n k p i)) ∧ Below w.heap.size w w' := by
  obtain ⟨m, a, s⟩ := k
  obtain ⟨⟨m1, m2⟩, ⟨a1, a2⟩, s1, s2⟩ := h2
  simp only at m1 m2 a1 a2 s1 s2
  obtain ⟨n1, n2⟩ := h1
  obtain ⟨p1, p2⟩ := h5
  obtain ⟨i1, i2⟩ := h6
  have hz : ¬ n = 0 := by omega
  have hz' : (n == 0) = false := by rw [beq_eq_false_iff_ne]; omega
  have H := Lib.hid (code_wrap n m a s p i m1 m2 a1 a2 s1 s2 p1 p2 i1 i2)
  unfold codeI
  simp only
  go_enter Try.func62, Try.ntmps62
  go_wp2_with fail
  go_ret
  exact ⟨ret_int H.out, up_alloc (up_alloc up0 _) _⟩

theorem mod_step {S n x : Int} : (S % n + x) % n = (S + x) % n := by rw [Int.emod_add_emod]
set_option maxRecDepth 100000 in
set_option maxHeartbeats 1000000 in
theorem RCheck_any (n ws : Int) (v1 v2 v : Value) (l : List Int) (w : World) (hn : 1 ≤ n ∧ n ≤ 1000) (hl : IntsAt w v l) (hin : ∀ x ∈ l, 0 ≤ x ∧ x ≤ 1000) (hlen : l.length ≤ 100) :
    Calls Try.prog 63 #[.agg #[iv n, iv ws, v1, v2], v] w fun r w' => r = .returned (iv (checkI n l)) ∧ Below w.heap.size w w' := by
  obtain ⟨_, A, cap, rfl, _, _⟩ := hl.form
  have HL := Lib.hid hl
  have HI := Lib.hid hin
  clear hl hin
  obtain ⟨n1, n2⟩ := hn
  have hz : ¬ n = 0 := by omega
  have hz' : (n == 0) = false := by rw [beq_eq_false_iff_ne]; omega
  go_enter Try.func63, Try.ntmps63
  go_wp2_with fail
  have B2 := Lib.hid (Box.new (w := w) (t := 25) (cs := #[iv n, iv ws, v1, v2]) rfl)
  have hB := Lib.hid (up_alloc (up0 (w := w)) (.cells #[iv n, iv ws, v1, v2] 25))
  go_loopw [5, 6] (fun s i wr => ∃ k : Nat, k ≤ l.length ∧ i = .int .i64 k ∧ s = .int .i64 (sumI 0 (l.take k) % n) ∧ Hid (Below w.heap.size w wr) ∧ Hid (Box wr w.heap.size 25 #[iv n, iv ws, v1, v2])) (fun _ i _ => l.length - (intOf i).toNat)
  case atStart => exact ⟨0, by omega, rfl, by simp [sumI], hB.out, B2.out⟩
  case round =>
    clear hB B2
    obtain ⟨k, hk, rfl, rfl, HB, B2⟩ := hrel
    have k0 : (0 : Int) ≤ (k : Int) := by omega
    by_cases hlt : k < l.length
    · obtain ⟨x, hx⟩ : ∃ x, l[k]? = some x := ⟨_, List.getElem?_eq_getElem hlt⟩
      have HR := Lib.hid (HL.out.kept HB.out)
      obtain ⟨b1, o1, rfl, _, _⟩ := HR.out.at rfl hx
      have k1 : (k : Int) < (l.length : Int) := by omega
      have hxi := HI.out x (List.mem_of_getElem? hx)
      have hm := mul_in ((k : Int) + 1) x 100 1000 (by omega) (by omega) (by omega) (by omega)
      have hm0 : 0 ≤ ((k : Int) + 1) * x := Int.mul_nonneg (by omega) hxi.1
      obtain ⟨S, hS⟩ : ∃ S, sumI 0 (l.take k) % n = S := ⟨_, rfl⟩
      have hs0 : 0 ≤ S := by rw [← hS]; exact Int.emod_nonneg _ (by omega)
      have hs1 : S < n := by rw [← hS]; exact Int.emod_lt_of_pos _ (by omega)
      have hW1 : IntKind.i64.wrap ((k : Int) + 1) = (k : Int) + 1 := wrapK_in _ 1000 (by omega) (by omega)
      obtain ⟨P, hP⟩ : ∃ P, ((k : Int) + 1) * x = P := ⟨_, rfl⟩
      rw [hP] at hm hm0
      have hW2 : IntKind.i64.wrap (((k : Int) + 1) * x) = P := by rw [hP]; exact wrapK_in _ 100000 (by omega) (by omega)
      have hW3 : IntKind.i64.wrap (S + P) = S + P := wrapK_in _ 200000 (by omega) (by omega)
      have hT : (S + P).tmod n = sumI 0 (l.take (k + 1)) % n := by
        rw [Int.tmod_eq_emod_of_nonneg (by omega), ← hS, mod_step, sumI_take 0 l k x hx, ← hP]
        congr 2
        have e : ((0 + k + 1 : Nat) : Int) = (k : Int) + 1 := by omega
        rw [e, Int.mul_comm]
      obtain ⟨S2, hS2⟩ : ∃ S2, sumI 0 (l.take (k + 1)) % n = S2 := ⟨_, rfl⟩
      rw [hS2] at hT
      have HS2 := Lib.hid hS2
      have Hx := Lib.hid hx
      rw [hS]
      have N := B2.out
      clear hx hS2 hP hS hm hxi
      go_wp2_with fail
      apply wp_region_by 12 [(Fact.eq _), (Fact.eq _), (Fact.eq _), (Fact.eq _), (Fact.eq _), (Fact.eq _), (Fact.eq _), (Fact.eq _), (Fact.eq _), (Fact.eq _), (Fact.eq _), (Fact.eq _)]
      case hm => kernel_rfl
      case hB => kernel_rfl
      case hA => (intro vs; simp only [List.take_succ_cons, List.take_zero, putAll, if_true, Act.put, List.setIfInBounds_toArray, List.set_cons_zero, List.set_cons_succ]; exact rfl)
      case hstep =>
        intro vs
        refine And.intro (fun w hw hd => ?_) ?_
        · refine ite_yes rfl ?_
          simp only [Gives]
          go_simp
          exact ⟨Below.refl _ _, rfl, fun h => by cases h⟩
        refine And.intro (fun w hw hd => ?_) ?_
        · refine ite_yes rfl ?_
          simp only [Gives]
          go_simp
          exact ⟨Below.refl _ _, rfl, fun h => by cases h⟩
        refine And.intro (fun w hw hd => ?_) ?_
        · have d1 := hd 1 (by decide) rfl
          change vs 1 = _ at d1
          refine ite_yes rfl ?_
          simp only [Gives]
          go_simp
          exact ⟨Below.refl _ _, rfl, fun h => by cases h⟩
        refine And.intro (fun w hw hd => ?_) ?_
        · refine ite_yes rfl ?_
          simp only [Gives]
          go_simp
          exact ⟨Below.refl _ _, rfl, fun h => by cases h⟩
        refine And.intro (fun w hw hd => ?_) ?_
        · refine ite_yes rfl ?_
          simp only [Gives]
          go_simp
          exact ⟨Below.refl _ _, rfl, fun h => by cases h⟩
        refine And.intro (fun w hw hd => ?_) ?_
        · have d3 := hd 3 (by decide) rfl
          change vs 3 = _ at d3
          have d4 := hd 4 (by decide) rfl
          change vs 4 = _ at d4
          refine ite_yes rfl ?_
          simp only [Gives]
          go_simp
          exact ⟨Below.refl _ _, rfl, fun h => by cases h⟩
        refine And.intro (fun w hw hd => ?_) ?_
        · have d5 := hd 5 (by decide) rfl
          change vs 5 = _ at d5
          refine ite_yes rfl ?_
          have c_N := fun i => (N.kept hw).cell i
          have q0 : w.cell? ⟨b1, o1 + k, none⟩ = some (.int .i64 x) := by simpa using (HR.out.kept hw).cellAt Hx.out (j := 0) rfl
          simp only [Gives]
          go_simp
          exact ⟨Below.refl _ _, rfl, fun h => by cases h⟩
        refine And.intro (fun w hw hd => ?_) ?_
        · have d2 := hd 2 (by decide) rfl
          change vs 2 = _ at d2
          have d6 := hd 6 (by decide) rfl
          change vs 6 = _ at d6
          refine ite_yes rfl ?_
          simp only [Gives]
          go_simp
          exact ⟨Below.refl _ _, rfl, fun h => by cases h⟩
        refine And.intro (fun w hw hd => ?_) ?_
        · have d0 := hd 0 (by decide) rfl
          change vs 0 = _ at d0
          have d7 := hd 7 (by decide) rfl
          change vs 7 = _ at d7
          refine ite_yes rfl ?_
          simp only [Gives]
          go_simp
          exact ⟨Below.refl _ _, rfl, fun h => by cases h⟩
        refine And.intro (fun w hw hd => ?_) ?_
        · refine ite_yes rfl ?_
          simp only [Gives]
          go_simp
          exact ⟨Below.refl _ _, rfl, fun h => by cases h⟩
        refine And.intro (fun w hw hd => ?_) ?_
        · have d9 := hd 9 (by decide) rfl
          change vs 9 = _ at d9
          refine ite_yes rfl ?_
          have c_N := fun i => (N.kept hw).cell i
          have q0 : w.cell? ⟨b1, o1 + k, none⟩ = some (.int .i64 x) := by simpa using (HR.out.kept hw).cellAt Hx.out (j := 0) rfl
          simp only [Gives]
          go_simp
          exact ⟨Below.refl _ _, rfl, fun h => by cases h⟩
        refine And.intro (fun w hw hd => ?_) ?_
        · have d8 := hd 8 (by decide) rfl
          change vs 8 = _ at d8
          have d10 := hd 10 (by decide) rfl
          change vs 10 = _ at d10
          refine ite_yes rfl ?_
          simp only [Gives]
          go_simp
          exact ⟨Below.refl _ _, rfl, fun h => by cases h⟩
        exact trivial
      intro vs wt hw hd hne hlo
      have d0 := hd 0 (by decide)
      change vs 0 = _ at d0
      have d1 := hd 1 (by decide)
      change vs 1 = _ at d1
      have d2 := hd 2 (by decide)
      change vs 2 = _ at d2
      have d3 := hd 3 (by decide)
      change vs 3 = _ at d3
      have d4 := hd 4 (by decide)
      change vs 4 = _ at d4
      have d5 := hd 5 (by decide)
      change vs 5 = _ at d5
      have d6 := hd 6 (by decide)
      change vs 6 = _ at d6
      have d7 := hd 7 (by decide)
      change vs 7 = _ at d7
      have d8 := hd 8 (by decide)
      change vs 8 = _ at d8
      have d9 := hd 9 (by decide)
      change vs 9 = _ at d9
      have d10 := hd 10 (by decide)
      change vs 10 = _ at d10
      have d11 := hd 11 (by decide)
      change vs 11 = _ at d11
      simp only [d0, d1, d2, d3, d4, d5, d6, d7, d8, d9, d10, d11, List.drop_succ_cons, List.drop_zero]
      have N := N.kept hw
      have c_N := fun i => N.cell i
      have f_N := fun i => N.free i
      clear hd hne hlo d0 d1 d2 d3 d4 d5 d6 d7 d8 d9 d10 d11
      go_wp2_with fail
      go_roundw
      case rel => exact ⟨k + 1, by omega, by go_num, by rw [HS2.out], up_later HB.out hw, B2.out.kept hw⟩
      case measure => simp [intOf]; omega
    · have hk' : k = l.length := by omega
      subst hk'
      have H := Lib.hid (show sumI 0 (l.take l.length) % n = checkI n l by rw [List.take_length]; rfl)
      go_wp2_with fail
      go_ret
      exact ⟨ret_int H.out, HB.out⟩

set_option maxRecDepth 100000 in
set_option maxHeartbeats 1000000 in
theorem RMeans_any (n ws : Int) (v1 v2 : Value) (k : Ky) (c i : Int) (w : World) (h1 : 1 ≤ n ∧ n ≤ 1000) (h2 : smallK k) (hu : undoI k.m n * k.m % n = 1) (hc : 0 ≤ c ∧ c < n) (h6 : 0 ≤ i ∧ i ≤ 1000) :
    Calls Try.prog 67 #[.agg #[iv n, iv ws, v1, v2], .agg #[iv k.m, iv k.a, iv k.s], iv c, iv i] w fun r w' => r = .returned (iv (plainI n k c i)) ∧ Below w.heap.size w w' := by
  obtain ⟨n1, n2⟩ := h1
  have HU := Lib.hid hu
  have HC := Lib.hid hc
  have HK2 := Lib.hid h2
  clear hu h2 hc
  go_enter Try.func67, Try.ntmps67
  go_wp2_with fail
  have B2 := Lib.hid ((Box.new (w := w) (t := 25) (cs := #[iv n, iv ws, v1, v2]) rfl).alloc (.cells #[iv k.m, iv k.a, iv k.s] 85))
  have B3 := Lib.hid (Box.new (w := w.alloc (.cells #[iv n, iv ws, v1, v2] 25)) (g := w.heap.size + 1) (t := 85) (cs := #[iv k.m, iv k.a, iv k.s]) (by simp))
  have hB := Lib.hid (up_alloc (up_alloc (up0 (w := w)) (.cells #[iv n, iv ws, v1, v2] 25)) (.cells #[iv k.m, iv k.a, iv k.s] 85))
  go_loopw [9] (fun z wr => ∃ p : Nat, (p : Int) ≤ n ∧ z = .int .i64 p ∧ Hid (∀ q : Nat, q < p → codeI n k q i ≠ c) ∧ Hid (Below w.heap.size w wr) ∧ Hid (Box wr w.heap.size 25 #[iv n, iv ws, v1, v2]) ∧ Hid (Box wr (w.heap.size + 1) 85 #[iv k.m, iv k.a, iv k.s])) (fun z _ => (n - intOf z).toNat)
  case atStart => exact ⟨0, by omega, rfl, fun q h => by omega, hB.out, B2.out, B3.out⟩
  case round =>
    clear hB B2 B3
    obtain ⟨p, hp, rfl, Hno, HB, B2, B3⟩ := hrel
    by_cases hlt : (p : Int) < n
    · obtain ⟨e, he⟩ : ∃ e, codeI n k p i = e := ⟨_, rfl⟩
      have HE := Lib.hid he
      have BA := B2.out
      have cA := fun i => BA.cell i
      have fA := fun i => BA.free i
      have lA := BA.lt
      have BB := B3.out
      have cB := fun i => BB.cell i
      have fB := fun i => BB.free i
      have lB := BB.lt
      go_wp2_with fail
      clear cA fA lA BA cB fB lB BB
      refine (RCodeOf_any n ws _ _ k p i _ ⟨n1, n2⟩ HK2.out (by omega) h6).mono ?_
      rintro e1 w1 ⟨rfl, hb⟩
      rw [HE.out]
      have HB := Lib.hid (up_later HB.out hb)
      have B2 := Lib.hid (B2.out.kept hb)
      have B3 := Lib.hid (B3.out.kept hb)
      clear hb
      by_cases hec : e = c
      · have hec' : (e == c) = true := by rw [beq_iff_eq]; exact hec
        have Hr := Lib.hid (show (p : Int) = plainI n k c i by rw [← hec, ← he, plain_code HU.out (by omega)])
        clear he hec
        go_wp2_with fail
        go_ret
        exact ⟨ret_int Hr.out, HB.out⟩
      · have hec' : (e == c) = false := by rw [beq_eq_false_iff_ne]; exact hec
        clear he
        go_wp2_with fail
        go_roundw
        case rel =>
          refine ⟨p + 1, by omega, by go_num, fun q hq => ?_, HB.out, B2.out, B3.out⟩
          rcases Nat.lt_or_ge q p with h | h
          · exact Hno.out q h
          · have : q = p := by omega
            subst this
            rw [HE.out]
            exact hec
        case measure => simp [intOf]; omega
    · exfalso
      have hpl := plainI_in (n := n) (k := k) (p := c) (i := i) (by omega)
      refine Hno.out (plainI n k c i).toNat (by omega) ?_
      rw [Int.toNat_of_nonneg hpl.1]
      exact code_plain HU.out HC.out
end Go.Proofs.Ytkhfkmfofhnmdaa
