/-
  WALK of Rise. Conditions: lists have at most 1000 elements.
-/
import Derived.Test.YtojbdmdjepgpjaaMi
namespace Go.Proofs.Ytojbdmdjepgpjaa
open Go.RowKit

/-- The rise of station a for b: the number, and the error. -/
def riseI (L : Ld) (a b : Int) : Int × Int :=
  if openI L 0 0 [a, b] ≠ 0 then (0, openI L 0 0 [a, b])
  else match (List.range (1000 - (stAt L a).z + 1).toNat).find? (clearB L (stAt L a) (stAt L b)) with
    | some n => (n, 0)
    | none => (0, 9)

theorem find_range_some {p : Nat → Bool} {N n : Nat} (hn : n < N) (hp : p n = true) (h : ∀ m, m < n → p m = false) : (List.range N).find? p = some n := by
  rw [List.find?_range_eq_some]
  exact ⟨hp, by simpa using hn, fun j hj => by simp [h j hj]⟩
theorem find_range_none {p : Nat → Bool} {N : Nat} (h : ∀ m, m < N → p m = false) : (List.range N).find? p = none := by
  rw [List.find?_eq_none]
  intro x hx
  simp [h x (List.mem_range.1 hx)]

set_option maxRecDepth 100000 in
set_option maxHeartbeats 4000000 in
theorem Rise_any (v1 v2 v3 v4 : Value) (L : Ld) (c : List (Value × List Cl)) (a b : Int) (w : World) (hL : LandAt w v1 v2 v3 v4 L c) :
    Calls Try.prog 34 #[.agg #[v1, v2, v3, v4], .int .i64 a, .int .i64 b] w fun e w' =>
      e = .returned (.tuple #[.int .i64 (riseI L a b).1, .int .i64 (riseI L a b).2]) ∧ Below w.heap.size w w' := by
  have HL := Lib.hid hL
  obtain ⟨hn1, A1, cap1, rfl, _, _⟩ := hL.st.form
  obtain ⟨hn2, A2, cap2, rfl, _, _⟩ := hL.rg.form
  obtain ⟨hn3, A3, cap3, rfl, _, _⟩ := hL.cs.form
  obtain ⟨hn4, A4, cap4, rfl, _, _⟩ := hL.sn.form
  clear hL
  by_cases ho : openI L 0 0 [a, b] = 0
  · obtain ⟨he, _, _, hst⟩ := open_ok ho
    have hok := land_ok he
    obtain ⟨ha0, ha1⟩ := hst a (by simp)
    obtain ⟨hb0, hb1⟩ := hst b (by simp)
    obtain ⟨i, rfl⟩ := Int.eq_ofNat_of_zero_le ha0
    obtain ⟨j, rfl⟩ := Int.eq_ofNat_of_zero_le hb0
    obtain ⟨s, hs⟩ : ∃ x, L.st[i]? = some x := ⟨_, List.getElem?_eq_getElem (by omega)⟩
    obtain ⟨t, ht⟩ : ∃ y, L.st[j]? = some y := ⟨_, List.getElem?_eq_getElem (by omega)⟩
    have hfin : riseI L i j = match (List.range (1000 - s.z + 1).toNat).find? (clearB L s t) with | some n => (n, 0) | none => (0, 9) := by
      unfold riseI stAt
      rw [if_neg (by simp [ho])]
      simp [hs, ht]
    have hso := (hok.st s (List.mem_of_getElem? hs)).1
    have hto := (hok.st t (List.mem_of_getElem? ht)).1
    have hz0 : 0 ≤ s.z := hso.2.2.1
    have hz1 : s.z ≤ 1000 := hso.2.2.2
    have Hfin := Lib.hid hfin
    have Ho := Lib.hid ho
    have Hs := Lib.hid hs
    have Ht := Lib.hid ht
    have Hso := Lib.hid hso
    have Hto := Lib.hid hto
    have Hrg := Lib.hid hok.rg
    clear hfin ho hs ht hok he hst hso hto ha0 hb0 ha1 hb1
    go_enter Try.func34, Try.ntmps34
    go_wp2_with fail
    refine (open2_any _ _ _ _ L c 0 0 _ i j _ ((HL.out.kept (up_alloc up0 _)).kept (up_alloc up0 _)) (Box.new (by simp))).mono ?_
    rintro e w1 ⟨hb1, (⟨hne, rfl⟩ | ⟨h0, gs, gm, rfl, hS, _, _⟩)⟩
    · exact absurd Ho.out hne
    · clear h0
      have hB := up_later (up_alloc (up_alloc up0 _) _) hb1
      clear hb1 HL
      have hX := hS.box
      have HS := Lib.hid hS
      clear hS
      go_wp2_with fail
      refine (line_any _ _ _ _ _ _ _ _ _ _ L c _ _ HS.out Hs.out Ht.out).mono ?_
      rintro e w2 ⟨rfl, hb2⟩
      have hX := (hX.kept hb2).alloc (.cells #[iv s.x, iv s.y, iv s.z, iv s.m, iv t.x, iv t.y, iv t.z, iv t.m] 111)
      have HS := Lib.hid ((HS.out.kept hb2).kept (up_alloc up0 (.cells #[iv s.x, iv s.y, iv s.z, iv s.m, iv t.x, iv t.y, iv t.z, iv t.m] 111)))
      have B10 := Box.new (w := w2) (t := 111) (cs := #[iv s.x, iv s.y, iv s.z, iv s.m, iv t.x, iv t.y, iv t.z, iv t.m]) rfl
      have hB := up_alloc (up_later hB hb2) (.cells #[iv s.x, iv s.y, iv s.z, iv s.m, iv t.x, iv t.y, iv t.z, iv t.m] 111)
      clear hb2
      go_wp2_with fail
      go_loopw [32] (fun q wr => ∃ k : Nat, (k : Int) ≤ 1000 - s.z + 1 ∧ q = .int .i64 k ∧ Hid (∀ m, m < k → clearB L s t m = false) ∧ Box wr gs 108 #[.slice A1 L.st.length cap1, .slice A2 L.rg.length cap2, .slice A3 c.length cap3, .slice A4 L.sn.length cap4, .map (some gm)] ∧ Box wr w2.heap.size 111 #[iv s.x, iv s.y, iv s.z, iv s.m, iv t.x, iv t.y, iv t.z, iv t.m] ∧ RowsAt wr (.slice A2 L.rg.length cap2) 6 Wl.cells L.rg ∧ Below w.heap.size w wr) (fun q _ => (1000 - s.z + 1 - intOf q).toNat)
      case atStart => exact ⟨0, by omega, rfl, by intro m hm; omega, hX, B10, HS.out.land.rg, hB⟩
      case round =>
        clear hX B10 hB HS
        obtain ⟨k, hk, rfl, hall, hX, B10, hR, hB⟩ := hrel
        have HR := Lib.hid hR
        clear hR
        by_cases hlt : (k : Int) < 1000 - s.z + 1
        · have hk0 : (0 : Int) ≤ k := by omega
          have hk1 : (k : Int) ≤ 1000 := by omega
          have hlo : StOK ⟨s.x, s.y, s.z + k, s.m⟩ := by
            have h1 := Hso.out
            unfold StOK at h1 ⊢
            simp only
            omega
          have Hlo := Lib.hid hlo
          clear hlo
          go_upto_region 8 with fail
          cases hc : L.rg.any (blocksW ⟨s.x, s.y, s.z + k, s.m⟩ t) with
          | true =>
            have Hc := Lib.hid hc
            apply wp_region_by 11 [(Fact.eq _), (Fact.eq _), (Fact.eq _), (Fact.eq _), (Fact.eq _), (Fact.eq _), (Fact.eq _), (Fact.eq _), (Fact.eq _), (Fact.eq _), (Fact.eq _)]
            case hm => kernel_rfl
            case hB => kernel_rfl
            case hA => (intro vs; simp only [List.take_succ_cons, List.take_zero, putAll, if_true, Act.put, List.setIfInBounds_toArray, List.set_cons_zero, List.set_cons_succ]; exact rfl)
            case hstep =>
              intro vs
              refine And.intro (fun w hw hd => ?_) ?_
              · refine ite_yes rfl ?_
                simp only [Gives]
                go_simp
                exact ⟨Below.refl _ _, rfl, fun h => by cases h⟩
              refine And.intro (fun w hw hd => ?_) ?_
              · have d0 := hd 0 (by decide) rfl
                change vs 0 = _ at d0
                refine ite_yes rfl ?_
                simp only [Gives]
                go_simp
                exact ⟨Below.refl _ _, rfl, fun h => by cases h⟩
              refine And.intro (fun w hw hd => ?_) ?_
              · have d1 := hd 1 (by decide) rfl
                change vs 1 = _ at d1
                refine ite_yes rfl ?_
                simp only [Gives]
                go_simp
                exact ⟨Below.refl _ _, rfl, fun h => by cases h⟩
              refine And.intro (fun w hw hd => ?_) ?_
              · have d2 := hd 2 (by decide) rfl
                change vs 2 = _ at d2
                refine ite_yes rfl ?_
                simp only [Gives]
                go_simp
                exact ⟨Below.refl _ _, rfl, fun h => by cases h⟩
              refine And.intro (fun w hw hd => ?_) ?_
              · have d3 := hd 3 (by decide) rfl
                change vs 3 = _ at d3
                refine ite_yes rfl ?_
                have c_hX := fun i => (hX.kept hw).cell i
                have c_B10 := fun i => (B10.kept hw).cell i
                simp only [Gives]
                go_simp
                exact ⟨Below.refl _ _, rfl, fun h => by cases h⟩
              refine And.intro (fun w hw hd => ?_) ?_
              · refine ite_yes rfl ?_
                have c_hX := fun i => (hX.kept hw).cell i
                have c_B10 := fun i => (B10.kept hw).cell i
                simp only [Gives]
                go_simp
                exact ⟨Below.refl _ _, rfl, fun h => by cases h⟩
              refine And.intro (fun w hw hd => ?_) ?_
              · refine ite_yes rfl ?_
                simp only [Gives]
                go_simp
                exact ⟨Below.refl _ _, rfl, fun h => by cases h⟩
              refine And.intro (fun w hw hd => ?_) ?_
              · have d5 := hd 5 (by decide) rfl
                change vs 5 = _ at d5
                have d6 := hd 6 (by decide) rfl
                change vs 6 = _ at d6
                refine ite_yes rfl ?_
                simp only [Gives]
                go_simp
                refine (lifted_any _ _ _ _ _ _ _ _ _ _ hz0 hz1 hk0 hk1).mono ?_
                rintro e w1 ⟨rfl, hb⟩
                exact ⟨_, rfl, hb, rfl, fun h => by cases h⟩
              refine And.intro (fun w hw hd => ?_) ?_
              · have d7 := hd 7 (by decide) rfl
                change vs 7 = _ at d7
                refine ite_yes rfl ?_
                simp only [Gives]
                go_simp
                exact ⟨Below.refl _ _, rfl, fun h => by cases h⟩
              refine And.intro (fun w hw hd => ?_) ?_
              · have d4 := hd 4 (by decide) rfl
                change vs 4 = _ at d4
                have d8 := hd 8 (by decide) rfl
                change vs 8 = _ at d8
                refine ite_yes rfl ?_
                simp only [Gives]
                go_simp
                refine (ContainsFunc_Wall_any _ L.rg ⟨s.x, s.y, s.z + k, s.m⟩ t _ (HR.out.kept hw) Hlo.out Hto.out Hrg.out).mono ?_
                rintro e w1 ⟨rfl, hb⟩
                exact ⟨_, rfl, hb, rfl, fun h => by cases h⟩
              refine And.intro (fun w hw hd => ?_) ?_
              · have d9 := hd 9 (by decide) rfl
                change vs 9 = _ at d9
                refine ite_yes rfl ?_
                simp only [Gives]
                go_simp
                exact ⟨Below.refl _ _, rfl, fun h => by cases h⟩
              exact trivial
            intro vs wt hw hd hne hlo
            have d0 := hd 0 (by decide)
            change vs 0 = _ at d0
            have d1 := hd 1 (by decide)
            change vs 1 = _ at d1
            have d2 := hd 2 (by decide)
            change vs 2 = _ at d2
            have d3 := hd 3 (by decide)
            change vs 3 = _ at d3
            have d4 := hd 4 (by decide)
            change vs 4 = _ at d4
            have d5 := hd 5 (by decide)
            change vs 5 = _ at d5
            have d6 := hd 6 (by decide)
            change vs 6 = _ at d6
            have d7 := hd 7 (by decide)
            change vs 7 = _ at d7
            have d8 := hd 8 (by decide)
            change vs 8 = _ at d8
            have d9 := hd 9 (by decide)
            change vs 9 = _ at d9
            have d10 := hd 10 (by decide)
            change vs 10 = _ at d10
            simp only [d0, d1, d2, d3, d4, d5, d6, d7, d8, d9, d10, List.drop_succ_cons, List.drop_nil]
            have hX := hX.kept hw
            have B10 := B10.kept hw
            have c_hX := fun i => hX.cell i
            have f_hX := fun i => hX.free i
            have c_B10 := fun i => B10.cell i
            have f_B10 := fun i => B10.free i
            clear hd hne hlo d0 d1 d2 d3 d4 d5 d6 d7 d8 d9 d10
            clear hc
            go_wp2
            go_roundw
            case rel =>
              refine ⟨k + 1, by omega, by go_num, ?_, hX, B10, HR.out.kept hw, up_later hB hw⟩
              intro m hm
              by_cases hmk : m = k
              · subst hmk
                unfold clearB lift
                rw [Hc.out]
                rfl
              · exact hall.out m (by omega)
            case measure => simp [intOf]; omega
          | false =>
            have Hc := Lib.hid hc
            apply wp_region_by 11 [(Fact.eq _), (Fact.eq _), (Fact.eq _), (Fact.eq _), (Fact.eq _), (Fact.eq _), (Fact.eq _), (Fact.eq _), (Fact.eq _), (Fact.eq _), (Fact.eq _)]
            case hm => kernel_rfl
            case hB => kernel_rfl
            case hA => (intro vs; simp only [List.take_succ_cons, List.take_zero, putAll, if_true, Act.put, List.setIfInBounds_toArray, List.set_cons_zero, List.set_cons_succ]; exact rfl)
            case hstep =>
              intro vs
              refine And.intro (fun w hw hd => ?_) ?_
              · refine ite_yes rfl ?_
                simp only [Gives]
                go_simp
                exact ⟨Below.refl _ _, rfl, fun h => by cases h⟩
              refine And.intro (fun w hw hd => ?_) ?_
              · have d0 := hd 0 (by decide) rfl
                change vs 0 = _ at d0
                refine ite_yes rfl ?_
                simp only [Gives]
                go_simp
                exact ⟨Below.refl _ _, rfl, fun h => by cases h⟩
              refine And.intro (fun w hw hd => ?_) ?_
              · have d1 := hd 1 (by decide) rfl
                change vs 1 = _ at d1
                refine ite_yes rfl ?_
                simp only [Gives]
                go_simp
                exact ⟨Below.refl _ _, rfl, fun h => by cases h⟩
              refine And.intro (fun w hw hd => ?_) ?_
              · have d2 := hd 2 (by decide) rfl
                change vs 2 = _ at d2
                refine ite_yes rfl ?_
                simp only [Gives]
                go_simp
                exact ⟨Below.refl _ _, rfl, fun h => by cases h⟩
              refine And.intro (fun w hw hd => ?_) ?_
              · have d3 := hd 3 (by decide) rfl
                change vs 3 = _ at d3
                refine ite_yes rfl ?_
                have c_hX := fun i => (hX.kept hw).cell i
                have c_B10 := fun i => (B10.kept hw).cell i
                simp only [Gives]
                go_simp
                exact ⟨Below.refl _ _, rfl, fun h => by cases h⟩
              refine And.intro (fun w hw hd => ?_) ?_
              · refine ite_yes rfl ?_
                have c_hX := fun i => (hX.kept hw).cell i
                have c_B10 := fun i => (B10.kept hw).cell i
                simp only [Gives]
                go_simp
                exact ⟨Below.refl _ _, rfl, fun h => by cases h⟩
              refine And.intro (fun w hw hd => ?_) ?_
              · refine ite_yes rfl ?_
                simp only [Gives]
                go_simp
                exact ⟨Below.refl _ _, rfl, fun h => by cases h⟩
              refine And.intro (fun w hw hd => ?_) ?_
              · have d5 := hd 5 (by decide) rfl
                change vs 5 = _ at d5
                have d6 := hd 6 (by decide) rfl
                change vs 6 = _ at d6
                refine ite_yes rfl ?_
                simp only [Gives]
                go_simp
                refine (lifted_any _ _ _ _ _ _ _ _ _ _ hz0 hz1 hk0 hk1).mono ?_
                rintro e w1 ⟨rfl, hb⟩
                exact ⟨_, rfl, hb, rfl, fun h => by cases h⟩
              refine And.intro (fun w hw hd => ?_) ?_
              · have d7 := hd 7 (by decide) rfl
                change vs 7 = _ at d7
                refine ite_yes rfl ?_
                simp only [Gives]
                go_simp
                exact ⟨Below.refl _ _, rfl, fun h => by cases h⟩
              refine And.intro (fun w hw hd => ?_) ?_
              · have d4 := hd 4 (by decide) rfl
                change vs 4 = _ at d4
                have d8 := hd 8 (by decide) rfl
                change vs 8 = _ at d8
                refine ite_yes rfl ?_
                simp only [Gives]
                go_simp
                refine (ContainsFunc_Wall_any _ L.rg ⟨s.x, s.y, s.z + k, s.m⟩ t _ (HR.out.kept hw) Hlo.out Hto.out Hrg.out).mono ?_
                rintro e w1 ⟨rfl, hb⟩
                exact ⟨_, rfl, hb, rfl, fun h => by cases h⟩
              refine And.intro (fun w hw hd => ?_) ?_
              · have d9 := hd 9 (by decide) rfl
                change vs 9 = _ at d9
                refine ite_yes rfl ?_
                simp only [Gives]
                go_simp
                exact ⟨Below.refl _ _, rfl, fun h => by cases h⟩
              exact trivial
            intro vs wt hw hd hne hlo
            have d0 := hd 0 (by decide)
            change vs 0 = _ at d0
            have d1 := hd 1 (by decide)
            change vs 1 = _ at d1
            have d2 := hd 2 (by decide)
            change vs 2 = _ at d2
            have d3 := hd 3 (by decide)
            change vs 3 = _ at d3
            have d4 := hd 4 (by decide)
            change vs 4 = _ at d4
            have d5 := hd 5 (by decide)
            change vs 5 = _ at d5
            have d6 := hd 6 (by decide)
            change vs 6 = _ at d6
            have d7 := hd 7 (by decide)
            change vs 7 = _ at d7
            have d8 := hd 8 (by decide)
            change vs 8 = _ at d8
            have d9 := hd 9 (by decide)
            change vs 9 = _ at d9
            have d10 := hd 10 (by decide)
            change vs 10 = _ at d10
            simp only [d0, d1, d2, d3, d4, d5, d6, d7, d8, d9, d10, List.drop_succ_cons, List.drop_nil]
            have hX := hX.kept hw
            have B10 := B10.kept hw
            have c_hX := fun i => hX.cell i
            have f_hX := fun i => hX.free i
            have c_B10 := fun i => B10.cell i
            have f_B10 := fun i => B10.free i
            clear hd hne hlo d0 d1 d2 d3 d4 d5 d6 d7 d8 d9 d10
            clear hc
            go_wp2
            go_ret2
            refine ⟨?_, up_later hB hw⟩
            have hcl : clearB L s t k = true := by unfold clearB lift; rw [Hc.out]; rfl
            rw [Hfin.out, find_range_some (n := k) (by omega) hcl hall.out]
            rfl
        · go_wp2
          go_ret2
          refine ⟨?_, hB⟩
          rw [Hfin.out, find_range_none (fun m hm => hall.out m (by omega))]
          rfl
  · have hfin : riseI L a b = (0, openI L 0 0 [a, b]) := by unfold riseI; rw [if_pos ho]
    have hbo : (openI L 0 0 [a, b] != 0) = true := by simpa using ho
    have Ho := Lib.hid ho
    have Hfin := Lib.hid hfin
    clear ho hfin
    go_enter Try.func34, Try.ntmps34
    go_wp2_with fail
    refine (open2_any _ _ _ _ L c 0 0 _ a b _ ((HL.out.kept (up_alloc up0 _)).kept (up_alloc up0 _)) (Box.new (by simp))).mono ?_
    rintro e w1 ⟨hb1, (⟨hne, rfl⟩ | ⟨h0, gs, gm, rfl, hS, _, _⟩)⟩
    · clear hne
      go_wp2
      go_ret2
      exact ⟨by rw [Hfin.out]; rfl, up_later (up_alloc (up_alloc up0 _) _) hb1⟩
    · exact absurd h0 Ho.out

end Go.Proofs.Ytojbdmdjepgpjaa
