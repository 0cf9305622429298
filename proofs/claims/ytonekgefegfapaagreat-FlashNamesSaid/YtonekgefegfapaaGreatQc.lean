/-
  FlashOwn (P2.16). WALK of the law. No condition.
-/
import Derived.Test.YtonekgefegfapaaGreatQa
namespace Go.Proofs.YtonekgefegfapaaGreat
open Go.RowKit

set_option maxRecDepth 100000 in
set_option maxHeartbeats 1500000 in
theorem Thin_any (v : Value) (l : List ByteArray) (s : ByteArray) (w : World) (hl : RowsAny w v 1 sc l) : Calls Tryz.prog 18 #[.agg #[v], .string s] w fun e w' => e = .returned (.bool (thinB l && decide (s.size ≤ 60))) ∧ Below w.heap.size w w' := by
  obtain ⟨A, cap, hv, hca, hcm⟩ := hl.form
  subst hv
  have hla : l.length ≤ 9223372036854775807 := Nat.le_trans hca hcm
  have HL := Lib.hid hl
  clear hl hca hcm
  go_enter Tryz.func18, Tryz.ntmps18
  have B1 := Box.new (w := w) (t := 24) (cs := #[.slice A l.length cap]) rfl
  go_wp2_with fail
  go_loopw [5] (fun i wr => ∃ k : Nat, k ≤ l.length ∧ k ≤ 10 ∧ i = iv k ∧ Hid (∀ j s, j < k → l[j]? = some s → s.size ≤ 9) ∧ Hid (Box wr w.heap.size 24 #[.slice A l.length cap]) ∧ Below w.heap.size w wr) (fun i _ => l.length - (intOf i).toNat)
  case atStart => exact ⟨0, by omega, by omega, rfl, Lib.hid (fun j _ h => absurd h (Nat.not_lt_zero _)), Lib.hid B1, up_alloc up0 _⟩
  case round =>
    obtain ⟨k, hk, hk10, rfl, HT, HB1, hB⟩ := hrel
    have c1 := fun i => HB1.out.cell i
    by_cases hlt : k < l.length
    · have hlt' : (k : Int) < (l.length : Int) := by omega
      by_cases h10 : k < 10
      · have h10' : (k : Int) < 10 := by omega
        have k0 : (0 : Int) ≤ (k : Int) := by omega
        obtain ⟨x, hx⟩ : ∃ x, l[k]? = some x := ⟨_, List.getElem?_eq_getElem hlt⟩
        obtain ⟨b, off, rfl, hb, hc⟩ := (HL.out.kept hB).at rfl hx
        have q0 : wr.cell? ⟨b, off + k, none⟩ = some (.string x) := by simpa using hc 0 _ rfl
        have Hx := Lib.hid hx
        clear hc hx
        by_cases h9 : 9 < x.size
        · have h9' : (9 : Int) < (x.size : Int) := by omega
          have Hr := Lib.hid (show (thinB l && decide (s.size ≤ 60)) = false by rw [thin_wide Hx.out h9]; rfl)
          go_wp2_with fail
          go_ret
          exact ⟨ret_bool Hr.out.symm, hB⟩
        · have h9' : ¬ (9 : Int) < (x.size : Int) := by omega
          have HN : Hid (∀ j s, j < k + 1 → l[j]? = some s → s.size ≤ 9) := Lib.hid fun j y hj hy => by
            rcases Nat.lt_or_ge j k with h | h
            · exact HT.out j y h hy
            · obtain rfl : j = k := by omega
              rw [Hx.out] at hy
              obtain rfl := Option.some.inj hy
              omega
          go_wp2_with fail
          go_roundw
          case rel => exact ⟨k + 1, by omega, by omega, by go_num, HN, HB1, hB⟩
          case measure => simp [intOf]; omega
      · have h10' : ¬ (k : Int) < 10 := by omega
        have hle : ¬ (l.length : Int) ≤ 9 := by omega
        have Hr := Lib.hid (show (thinB l && decide (s.size ≤ 60)) = false by rw [thin_long (by omega)]; rfl)
        go_wp2_with fail
        go_ret
        exact ⟨ret_bool Hr.out.symm, hB⟩
    · have hlt' : ¬ (k : Int) < (l.length : Int) := by omega
      obtain rfl : k = l.length := by omega
      by_cases h9 : l.length ≤ 9
      · have hle : (l.length : Int) ≤ 9 := by omega
        have Hr := Lib.hid (show (thinB l && decide (s.size ≤ 60)) = decide ((s.size : Int) ≤ 60) by
          rw [thin_yes h9 HT.out, Bool.true_and, decide_eq_decide]
          omega)
        go_wp2_with fail
        go_ret
        exact ⟨ret_bool Hr.out.symm, hB⟩
      · have hle : ¬ (l.length : Int) ≤ 9 := by omega
        have Hr := Lib.hid (show (thinB l && decide (s.size ≤ 60)) = false by rw [thin_long (by omega)]; rfl)
        go_wp2_with fail
        go_ret
        exact ⟨ret_bool Hr.out.symm, hB⟩
theorem str_info : (Tryz.prog.info? 9).map (fun i => (i.zero, i.size, i.bytes)) = some (some (.string ⟨#[]⟩), 1, 16) := by kernel_rfl
theorem flat_sc (l : List ByteArray) : l.flatMap sc = l.map fun x => .string x := by
  induction l with
  | nil => rfl
  | cons x l ih => rw [List.flatMap_cons, ih]; rfl
set_option maxRecDepth 100000 in
set_option maxHeartbeats 1500000 in
theorem Code_any (v : Value) (l : List ByteArray) (w : World) (hl : RowsAt w v 1 sc l) : Calls Tryz.prog 21 #[.agg #[v]] w fun e w' => ∃ u, e = .returned (.agg #[u]) ∧ RowsAny w' u 1 sc l ∧ Below w.heap.size w w' := by
  obtain ⟨hlen, A, cap, hv, hcap, hmax⟩ := hl.form
  subst hv
  obtain ⟨i0, hi0, hz0, hz1, hz2⟩ := info_parts str_info
  have und22 := Tryz.underlying22
  cases A with
  | none =>
    have hl0 : l = [] := by
      rcases hl with ⟨_, A', cap', h1, _, _, h4⟩
      injection h1 with h1
      subst h1
      rcases l with _ | ⟨x, l⟩
      · rfl
      · obtain ⟨b, off, e, _⟩ := h4 (by simp)
        cases e
    subst hl0
    clear hl
    go_enter Tryz.func21, Tryz.ntmps21
    have B1 := Box.new (w := w) (t := 24) (cs := #[.slice none ([] : List ByteArray).length cap]) rfl
    have c1 := fun i => B1.cell i
    go_wp2_with fail
    refine bodyPost_ret (v := .agg #[.slice (some ⟨w.heap.size + 1 + 1, 0, none⟩) 0 0]) (results_cell rfl rfl ((Box.new (by simp)).alloc _) (d := .struct (Tryz.prog.fieldsOf 30)) (by kernel_rfl) rfl (by kernel_rfl)) rfl ⟨_, rfl, ⟨_, 0, rfl, Nat.zero_le _, Nat.zero_le _, fun h => absurd rfl h⟩, up_alloc (up_alloc (up_alloc up0 _) _) _⟩
  | some ad =>
    have HL := Lib.hid hl
    clear hl
    go_enter Tryz.func21, Tryz.ntmps21
    have B1 := Box.new (w := w) (t := 24) (cs := #[.slice (some ad) l.length cap]) rfl
    have c1 := fun i => B1.cell i
    have b1 := HL.out
    have hmk : (((w.alloc (.cells #[.slice (some ad) l.length cap] 24)).alloc (.cells #[.slice none 0 0] 30)).alloc (.cells #[] 9)).ownsRow w.heap.size 9 1 (.slice (some ⟨w.heap.size + 1 + 1, 0, none⟩) 0 0) 0 [] := by
      have h := World.ownsRow_made (base := w.heap.size) (e := 9) (size := 1) ((w.alloc (.cells #[.slice (some ad) l.length cap] 24)).alloc (.cells #[.slice none 0 0] 30)) #[] 0 (by simp; omega) (Nat.zero_le _) rfl
      simpa using h
    go_wp2_with (at_builtin; refine wpList_append_own _ rfl _ _ 22 rfl w.heap.size 9 i0 (.string ⟨#[]⟩) 1 16 und22 hi0 hz0 hz1 hz2 rfl (by decide) _ 0 [] rfl hmk ad l.length cap (l.map fun x => .string x) rfl (by simp) ?qc2 ?qc3 (by unfold maxLen; omega) (by omega) (by simp; omega) ?_)
    case qc2 =>
      intro j u hj
      rw [List.getElem?_map, Option.map_eq_some_iff] at hj
      obtain ⟨x, hx, rfl⟩ := hj
      obtain ⟨b, off, e, hb, hc⟩ := HL.out.at rfl hx
      injection e with e
      subst e
      have := hc 0 _ rfl
      rw [addr_add]
      exact Lib.cell?_alloc_some _ (Lib.cell?_alloc_some _ (Lib.cell?_alloc_some _ (by simpa using this)))
    case qc3 =>
      intro u hu
      obtain ⟨x, _, rfl⟩ := List.mem_map.1 hu
      rfl
    intro v' w1 hown hgrow hnil
    have B2 := (show Box (((w.alloc (.cells #[.slice (some ad) l.length cap] 24)).alloc (.cells #[.slice none 0 0] 30)).alloc (.cells #[] 9)) (w.heap.size + 1) 30 #[.slice none 0 0] from (Box.new (by simp)).alloc _).grown hgrow (by simp [Value.ownBlock])
    have c2 := fun i => B2.cell i
    have f2 := fun i => B2.free i
    have hbw : Below w.heap.size w w1 := (up_alloc (up_alloc (up_alloc up0 _) _) _).grown hgrow (by simp; omega) (by intro k hk; simp [Value.ownBlock] at hk; omega)
    obtain ⟨A', m', p', hform⟩ := own_form hown
    subst hform
    have HO := Lib.hid (hown.kept (grownBy_set w1 (w.heap.size + 1) 0 (.slice A' m' p')) (.inr (Ne.symm (box_not_own B2 (by decide) hown))))
    clear hown hgrow hnil
    go_wp2_with fail
    exact bodyPost_ret (v := .agg #[.slice A' m' p']) (results_cell rfl rfl (Box.put1 B2) (d := .struct (Tryz.prog.fieldsOf 30)) (by kernel_rfl) rfl (by kernel_rfl)) rfl ⟨_, rfl, rows_any (rows_of_own (cells := sc) (by rw [flat_sc]; simpa using HO.out) rfl (fun _ => rfl) hlen), up_put hbw (by simp) _⟩
set_option maxRecDepth 100000 in
set_option maxHeartbeats 3000000 in
theorem IsText_any (v u : Value) (l : List ByteArray) (t : List Int) (w : World) (hl : RowsAt w v 1 sc l) (ht : RowsAny w u 1 ic t) : Calls Tryz.prog 25 #[.agg #[v], u] w fun e w' => e = .returned (.bool (t.all (letB l.length))) ∧ Below w.heap.size w w' := by
  obtain ⟨hla, A, cap, hv, hca, hcm⟩ := hl.form
  subst hv
  obtain ⟨A2, cap2, hv2, hca2, hcm2⟩ := ht.form
  subst hv2
  have hta : t.length ≤ 9223372036854775807 := Nat.le_trans hca2 hcm2
  have HT := Lib.hid ht
  obtain ⟨n, hn⟩ : ∃ n, l.length = n := ⟨_, rfl⟩
  rw [hn] at hla
  rw [hn]
  clear hl ht hca hcm hca2 hcm2 hn
  go_enter Tryz.func25, Tryz.ntmps25
  have B1 := Box.new (w := w) (t := 24) (cs := #[.slice A n cap]) rfl
  go_wp2_with fail
  go_loopw [5] (fun i wr => ∃ k : Nat, k ≤ t.length ∧ i = iv k ∧ Hid ((t.take k).all (letB n) = true) ∧ Hid (Box wr w.heap.size 24 #[.slice A n cap]) ∧ Below w.heap.size w wr) (fun i _ => t.length - (intOf i).toNat)
  case atStart => exact ⟨0, by omega, rfl, Lib.hid rfl, Lib.hid B1, up_alloc up0 _⟩
  case round =>
    obtain ⟨k, hk, rfl, HA, HB1, hB⟩ := hrel
    by_cases hlt : k < t.length
    · obtain ⟨x, hx⟩ : ∃ x, t[k]? = some x := ⟨_, List.getElem?_eq_getElem hlt⟩
      obtain ⟨b, off, rfl, hb, hc⟩ := (HT.out.kept hB).at rfl hx
      have q0 : wr.cell? ⟨b, off + k, none⟩ = some (iv x) := by simpa using hc 0 _ rfl
      have Hx := Lib.hid hx
      have k0 : (0 : Int) ≤ (k : Int) := by omega
      have kl : (k : Int) < (t.length : Int) := by omega
      have hW : IntKind.i64.wrap ((n : Int) - 1) = (n : Int) - 1 := wrapK_in _ 3000 (by omega) (by omega)
      have HB := Lib.hid hB
      have b1 := HB1.out
      have lB1 := b1.lt
      clear hx hc hB B1
      cases hxn : letB n x with
      | true =>
        have HI := Lib.hid (show (decide (0 ≤ x) && decide (x ≤ (n : Int) - 1)) = true by rw [← hxn]; unfold letB; congr 1; rw [decide_eq_decide]; omega)
        have HN := Lib.hid (show (t.take (k + 1)).all (letB n) = true by rw [all_take Hx.out, HA.out, hxn]; rfl)
        clear hxn HA HT Hx
        go_wp2_with fail
        apply wp_region_by 10 [(Fact.eq _), (Fact.eq _), (Fact.eq _), (Fact.eq _), (Fact.eq _), (Fact.eq _), (Fact.eq _), (Fact.eq _), (Fact.eq _), (Fact.eq _)]
        case hm => kernel_rfl
        case hB => kernel_rfl
        case hA => (intro vs; simp only [List.take_succ_cons, List.take_zero, putAll, if_true, Act.put, List.setIfInBounds_toArray, List.set_cons_zero, List.set_cons_succ]; exact rfl)
        case hstep =>
          intro vs
          refine And.intro (fun w hw hd => ?_) ?_
          · refine ite_yes rfl ?_
            simp only [Gives]
            go_simp
            exact ⟨Below.refl _ _, rfl, fun h => by cases h⟩
          refine And.intro (fun w hw hd => ?_) ?_
          · refine ite_yes rfl ?_
            simp only [Gives]
            go_simp
            exact ⟨Below.refl _ _, rfl, fun h => by cases h⟩
          refine And.intro (fun w hw hd => ?_) ?_
          · have d0 := hd 0 (by decide) rfl
            change vs 0 = _ at d0
            have d1 := hd 1 (by decide) rfl
            change vs 1 = _ at d1
            refine ite_yes rfl ?_
            simp only [Gives]
            go_simp
            exact ⟨Below.refl _ _, rfl, fun h => by cases h⟩
          refine And.intro (fun w hw hd => ?_) ?_
          · have d2 := hd 2 (by decide) rfl
            change vs 2 = _ at d2
            refine ite_yes rfl ?_
            have c_b1 := fun i => (b1.kept hw).cell i
            have p0 := (hw.cell (p := ⟨b, off + k, none⟩) hb).trans q0
            simp only [Gives]
            go_simp
            exact ⟨Below.refl _ _, rfl, fun h => by cases h⟩
          refine And.intro (fun w hw hd => ?_) ?_
          · refine ite_yes rfl ?_
            simp only [Gives]
            go_simp
            exact ⟨Below.refl _ _, rfl, fun h => by cases h⟩
          refine And.intro (fun w hw hd => ?_) ?_
          · have d4 := hd 4 (by decide) rfl
            change vs 4 = _ at d4
            refine ite_yes rfl ?_
            have c_b1 := fun i => (b1.kept hw).cell i
            simp only [Gives]
            go_simp
            exact ⟨Below.refl _ _, rfl, fun h => by cases h⟩
          refine And.intro (fun w hw hd => ?_) ?_
          · have d5 := hd 5 (by decide) rfl
            change vs 5 = _ at d5
            refine ite_yes rfl ?_
            simp only [Gives]
            go_simp
            exact ⟨Below.refl _ _, rfl, fun h => by cases h⟩
          refine And.intro (fun w hw hd => ?_) ?_
          · have d6 := hd 6 (by decide) rfl
            change vs 6 = _ at d6
            refine ite_yes rfl ?_
            simp only [Gives]
            go_simp
            exact ⟨Below.refl _ _, rfl, fun h => by cases h⟩
          refine And.intro (fun w hw hd => ?_) ?_
          · have d3 := hd 3 (by decide) rfl
            change vs 3 = _ at d3
            have d7 := hd 7 (by decide) rfl
            change vs 7 = _ at d7
            refine ite_yes rfl ?_
            simp only [Gives]
            go_simp
            refine (In_b x 0 ((n : Int) - 1) true w HI.out).mono ?_
            rintro e w1 ⟨rfl, hb⟩
            exact ⟨_, rfl, hb, rfl, fun h => by cases h⟩
          refine And.intro (fun w hw hd => ?_) ?_
          · have d8 := hd 8 (by decide) rfl
            change vs 8 = _ at d8
            refine ite_yes rfl ?_
            simp only [Gives]
            go_simp
            exact ⟨Below.refl _ _, rfl, fun h => by cases h⟩
          exact trivial
        intro vs wt hw hd hne hlo
        have d0 := hd 0 (by decide)
        change vs 0 = _ at d0
        have d1 := hd 1 (by decide)
        change vs 1 = _ at d1
        have d2 := hd 2 (by decide)
        change vs 2 = _ at d2
        have d3 := hd 3 (by decide)
        change vs 3 = _ at d3
        have d4 := hd 4 (by decide)
        change vs 4 = _ at d4
        have d5 := hd 5 (by decide)
        change vs 5 = _ at d5
        have d6 := hd 6 (by decide)
        change vs 6 = _ at d6
        have d7 := hd 7 (by decide)
        change vs 7 = _ at d7
        have d8 := hd 8 (by decide)
        change vs 8 = _ at d8
        have d9 := hd 9 (by decide)
        change vs 9 = _ at d9
        simp only [d0, d1, d2, d3, d4, d5, d6, d7, d8, d9, List.drop_succ_cons, List.drop_nil]
        have b1 := b1.kept hw
        have c_b1 := fun i => b1.cell i
        have f_b1 := fun i => b1.free i
        clear hd hne hlo d0 d1 d2 d3 d4 d5 d6 d7 d8 d9
        have hB := up_later HB.out hw
        go_wp2_with fail
        go_roundw
        case rel => exact ⟨k + 1, by omega, by go_num, HN, Lib.hid b1, hB⟩
        case measure => simp [intOf]; omega
      | false =>
        have HI := Lib.hid (show (decide (0 ≤ x) && decide (x ≤ (n : Int) - 1)) = false by rw [← hxn]; unfold letB; congr 1; rw [decide_eq_decide]; omega)
        have Hr := Lib.hid (show t.all (letB n) = false by rw [List.all_eq_false]; exact ⟨x, List.mem_of_getElem? Hx.out, by rw [hxn]; simp⟩)
        clear hxn HA HT Hx
        go_wp2_with fail
        apply wp_region_by 10 [(Fact.eq _), (Fact.eq _), (Fact.eq _), (Fact.eq _), (Fact.eq _), (Fact.eq _), (Fact.eq _), (Fact.eq _), (Fact.eq _), (Fact.eq _)]
        case hm => kernel_rfl
        case hB => kernel_rfl
        case hA => (intro vs; simp only [List.take_succ_cons, List.take_zero, putAll, if_true, Act.put, List.setIfInBounds_toArray, List.set_cons_zero, List.set_cons_succ]; exact rfl)
        case hstep =>
          intro vs
          refine And.intro (fun w hw hd => ?_) ?_
          · refine ite_yes rfl ?_
            simp only [Gives]
            go_simp
            exact ⟨Below.refl _ _, rfl, fun h => by cases h⟩
          refine And.intro (fun w hw hd => ?_) ?_
          · refine ite_yes rfl ?_
            simp only [Gives]
            go_simp
            exact ⟨Below.refl _ _, rfl, fun h => by cases h⟩
          refine And.intro (fun w hw hd => ?_) ?_
          · have d0 := hd 0 (by decide) rfl
            change vs 0 = _ at d0
            have d1 := hd 1 (by decide) rfl
            change vs 1 = _ at d1
            refine ite_yes rfl ?_
            simp only [Gives]
            go_simp
            exact ⟨Below.refl _ _, rfl, fun h => by cases h⟩
          refine And.intro (fun w hw hd => ?_) ?_
          · have d2 := hd 2 (by decide) rfl
            change vs 2 = _ at d2
            refine ite_yes rfl ?_
            have c_b1 := fun i => (b1.kept hw).cell i
            have p0 := (hw.cell (p := ⟨b, off + k, none⟩) hb).trans q0
            simp only [Gives]
            go_simp
            exact ⟨Below.refl _ _, rfl, fun h => by cases h⟩
          refine And.intro (fun w hw hd => ?_) ?_
          · refine ite_yes rfl ?_
            simp only [Gives]
            go_simp
            exact ⟨Below.refl _ _, rfl, fun h => by cases h⟩
          refine And.intro (fun w hw hd => ?_) ?_
          · have d4 := hd 4 (by decide) rfl
            change vs 4 = _ at d4
            refine ite_yes rfl ?_
            have c_b1 := fun i => (b1.kept hw).cell i
            simp only [Gives]
            go_simp
            exact ⟨Below.refl _ _, rfl, fun h => by cases h⟩
          refine And.intro (fun w hw hd => ?_) ?_
          · have d5 := hd 5 (by decide) rfl
            change vs 5 = _ at d5
            refine ite_yes rfl ?_
            simp only [Gives]
            go_simp
            exact ⟨Below.refl _ _, rfl, fun h => by cases h⟩
          refine And.intro (fun w hw hd => ?_) ?_
          · have d6 := hd 6 (by decide) rfl
            change vs 6 = _ at d6
            refine ite_yes rfl ?_
            simp only [Gives]
            go_simp
            exact ⟨Below.refl _ _, rfl, fun h => by cases h⟩
          refine And.intro (fun w hw hd => ?_) ?_
          · have d3 := hd 3 (by decide) rfl
            change vs 3 = _ at d3
            have d7 := hd 7 (by decide) rfl
            change vs 7 = _ at d7
            refine ite_yes rfl ?_
            simp only [Gives]
            go_simp
            refine (In_b x 0 ((n : Int) - 1) false w HI.out).mono ?_
            rintro e w1 ⟨rfl, hb⟩
            exact ⟨_, rfl, hb, rfl, fun h => by cases h⟩
          refine And.intro (fun w hw hd => ?_) ?_
          · have d8 := hd 8 (by decide) rfl
            change vs 8 = _ at d8
            refine ite_yes rfl ?_
            simp only [Gives]
            go_simp
            exact ⟨Below.refl _ _, rfl, fun h => by cases h⟩
          exact trivial
        intro vs wt hw hd hne hlo
        have d0 := hd 0 (by decide)
        change vs 0 = _ at d0
        have d1 := hd 1 (by decide)
        change vs 1 = _ at d1
        have d2 := hd 2 (by decide)
        change vs 2 = _ at d2
        have d3 := hd 3 (by decide)
        change vs 3 = _ at d3
        have d4 := hd 4 (by decide)
        change vs 4 = _ at d4
        have d5 := hd 5 (by decide)
        change vs 5 = _ at d5
        have d6 := hd 6 (by decide)
        change vs 6 = _ at d6
        have d7 := hd 7 (by decide)
        change vs 7 = _ at d7
        have d8 := hd 8 (by decide)
        change vs 8 = _ at d8
        have d9 := hd 9 (by decide)
        change vs 9 = _ at d9
        simp only [d0, d1, d2, d3, d4, d5, d6, d7, d8, d9, List.drop_succ_cons, List.drop_nil]
        have b1 := b1.kept hw
        have c_b1 := fun i => b1.cell i
        have f_b1 := fun i => b1.free i
        clear hd hne hlo d0 d1 d2 d3 d4 d5 d6 d7 d8 d9
        have hB := up_later HB.out hw
        go_wp2_with fail
        go_ret
        exact ⟨ret_bool Hr.out.symm, hB⟩
    · have Hr := Lib.hid (show t.all (letB n) = true by have h := HA.out; rwa [List.take_of_length_le (by omega)] at h)
      go_wp2_with fail
      go_ret
      exact ⟨ret_bool Hr.out.symm, hB⟩
set_option maxRecDepth 100000 in
set_option maxHeartbeats 3000000 in
theorem Signs_any (v u : Value) (l : List ByteArray) (t : List Int) (w : World) (hl : RowsAt w v 1 sc l) (ht : RowsAt w u 1 ic t) (h4 : ∀ s ∈ l, s.size ≤ 4) (hx : ∀ x ∈ t, letB l.length x = true) :
    Calls Tryz.prog 26 #[.agg #[v], u] w fun e w' => e = .returned (.string ⟨(sgnI l t).toArray⟩) ∧ Below w.heap.size w w' := by
  obtain ⟨hlen, A, cap, hv, -, -⟩ := hl.form
  subst hv
  obtain ⟨htlen, A2, cap2, hv2, -, -⟩ := ht.form
  subst hv2
  have HL := Lib.hid hl
  have HT := Lib.hid ht
  have H4 := Lib.hid h4
  have HX := Lib.hid hx
  clear hl ht h4 hx
  go_enter Tryz.func26, Tryz.ntmps26
  have B1 := Box.new (w := w) (t := 24) (cs := #[.slice A l.length cap]) rfl
  go_wp2_with fail
  go_loopw [5, 6] (fun o i wr => ∃ k : Nat, k ≤ t.length ∧ i = iv k ∧ o = .string ⟨(sgnF l t k).toArray⟩ ∧ Hid (Box wr w.heap.size 24 #[.slice A l.length cap]) ∧ Below w.heap.size w wr) (fun _ i _ => t.length - (intOf i).toNat)
  case atStart => exact ⟨0, by omega, rfl, rfl, Lib.hid B1, up_alloc up0 _⟩
  case round =>
    obtain ⟨k, hk, rfl, rfl, HB1, hB⟩ := hrel
    by_cases hlt : k < t.length
    · obtain ⟨x, hx⟩ : ∃ x, t[k]? = some x := ⟨_, List.getElem?_eq_getElem hlt⟩
      obtain ⟨b, off, rfl, hb, hc⟩ := (HT.out.kept hB).at rfl hx
      have hxl := HX.out x (List.mem_of_getElem? hx)
      unfold letB at hxl
      have hx0 : 0 ≤ x ∧ x < (l.length : Int) := by simpa using hxl
      obtain ⟨n, rfl⟩ : ∃ n : Nat, x = n := ⟨x.toNat, by omega⟩
      have hn : n < l.length := by omega
      have q0 : wr.cell? ⟨b, off + k, none⟩ = some (.int .i64 n) := by simpa using hc 0 _ rfl
      obtain ⟨y, hy⟩ : ∃ y, l[n]? = some y := ⟨_, List.getElem?_eq_getElem hn⟩
      obtain ⟨b2, off2, rfl, hb2, hc2⟩ := (HL.out.kept hB).at rfl hy
      have q1 : wr.cell? ⟨b2, off2 + n, none⟩ = some (.string y) := by simpa using hc2 0 _ rfl
      have hy4 := H4.out y (List.mem_of_getElem? hy)
      have hgl := sgnF_len H4.out t k
      obtain ⟨G, hG⟩ : ∃ G : ByteArray, ⟨(sgnF l t k).toArray⟩ = G := ⟨_, rfl⟩
      have hGs : G.size ≤ 5000 := by
        rw [← hG]
        show (sgnF l t k).toArray.size ≤ 5000
        simp
        omega
      have Hs := Lib.hid (show (⟨(sgnF l t (k + 1)).toArray⟩ : ByteArray) = if k = 0 then G ++ y else (G ++ ⟨#[32]⟩) ++ y by
        rw [sgnF_succ, List.getD_eq_getElem?_getD, hx, ← hG]
        apply ByteArray.ext
        by_cases h0 : k = 0
        · subst h0
          rw [if_pos rfl]
          simp [addS, List.getD_eq_getElem?_getD, hy]
        · rw [if_neg h0]
          simp [addS, List.getD_eq_getElem?_getD, hy, h0])
      have k0 : (0 : Int) ≤ (k : Int) := by omega
      have kl : (k : Int) < (t.length : Int) := by omega
      have n0 : (0 : Int) ≤ (n : Int) := by omega
      have nl : (n : Int) < (l.length : Int) := by omega
      have b1 := HB1.out
      have c1 := fun i => b1.cell i
      rw [hG]
      clear hx hc hxl hx0 hy hc2 hgl hG
      by_cases h0 : k = 0
      · subst h0
        have hcat : ¬ 9223372036854775807 < G.size + y.size := by omega
        have q0 : wr.cell? ⟨b, off, none⟩ = some (.int .i64 n) := by simpa using q0
        go_wp2_with fail
        go_region
        go_wp2_with fail
        go_roundw
        case rel => exact ⟨1, by omega, by go_num, by rw [Hs.out]; rfl, HB1, up_drew hB⟩
        case measure => simp [intOf]; omega
      · have hk0 : (0 : Int) < (k : Int) := by omega
        have hcat : ¬ 9223372036854775807 < G.size + 1 := by omega
        obtain ⟨G2, hG2⟩ : ∃ G2 : ByteArray, G ++ ⟨#[32]⟩ = G2 := ⟨_, rfl⟩
        have hG2s : G2.size = G.size + 1 := by rw [← hG2, ByteArray.size_append]; rfl
        have hcat2 : ¬ 9223372036854775807 < G2.size + y.size := by omega
        have Hs2 := Lib.hid (show (⟨(sgnF l t (k + 1)).toArray⟩ : ByteArray) = G2 ++ y by rw [Hs.out, if_neg h0, hG2])
        go_wp2_with fail
        clear hG2
        go_region
        go_wp2_with fail
        go_roundw
        case rel => exact ⟨k + 1, by omega, by go_num, by rw [Hs2.out], HB1, up_drew hB⟩
        case measure => simp [intOf]; omega
    · obtain rfl : k = t.length := by omega
      go_wp2_with fail
      go_ret
      exact ⟨rfl, hB⟩
end Go.Proofs.YtonekgefegfapaaGreat

namespace Go.Proofs.YtonekgefegfapaaGreat
open Go.RowKit

theorem bytes_ne {x y : ByteArray} (h : ¬ y = x) : (y.toList == x.toList) = false := beq_eq_false_iff_ne.2 fun e => h (ByteArray.ext (Array.toList_inj.1 (by rw [← ByteArray.toList_eq, ← ByteArray.toList_eq]; exact e)))
set_option maxRecDepth 100000 in
set_option maxHeartbeats 3000000 in
theorem Fault_any (v : Value) (l : List ByteArray) (w : World) (hl : RowsAny w v 1 sc l) : Calls Tryz.prog 56 #[.agg #[v]] w fun e w' => e = .returned (iv (codeE l)) ∧ Below w.heap.size w w' := by
  obtain ⟨A, cap, hv, -, -⟩ := hl.form
  subst hv
  by_cases h6 : 6 < l.length
  · have h6' : (6 : Int) < (l.length : Int) := by omega
    have Hr := Lib.hid (show codeE l = 3 by unfold codeE; rw [if_pos h6])
    clear hl
    go_enter Tryz.func56, Tryz.ntmps56
    have B1 := Box.new (w := w) (t := 24) (cs := #[.slice A l.length cap]) rfl
    have c1 := fun i => B1.cell i
    go_wp2_with fail
    go_ret
    exact ⟨by rw [Hr.out]; rfl, up_alloc up0 _⟩
  · have h6' : ¬ (6 : Int) < (l.length : Int) := by omega
    have HL := Lib.hid (hl.rows (by omega))
    have H1 : Hid (codeB l = false → codeE l = 1) := Lib.hid fun h => by unfold codeE; rw [if_neg h6, if_pos h]
    have H0 : Hid (codeB l = true → codeE l = 0) := Lib.hid fun h => by unfold codeE; rw [if_neg h6, if_neg (by rw [h]; simp)]
    clear hl
    go_enter Tryz.func56, Tryz.ntmps56
    have B1 := Box.new (w := w) (t := 24) (cs := #[.slice A l.length cap]) rfl
    have c1 := fun i => B1.cell i
    go_wp2_with fail
    clear c1
    go_loopw [3] (fun i wr => ∃ k : Nat, k ≤ l.length ∧ i = iv k ∧ Hid (Seen l k) ∧ Hid (Box wr w.heap.size 24 #[.slice A l.length cap]) ∧ Below w.heap.size w wr) (fun i _ => l.length - (intOf i).toNat)
    case atStart => exact ⟨0, by omega, rfl, Lib.hid (seen_none l), Lib.hid B1, up_alloc up0 _⟩
    case round =>
      obtain ⟨k, hk, rfl, HS, HB1, hB⟩ := hrel
      have c1 := fun i => HB1.out.cell i
      have k0 : (0 : Int) ≤ (k : Int) := by omega
      by_cases hlt : k < l.length
      · have kl : (k : Int) < (l.length : Int) := by omega
        obtain ⟨x, hx⟩ : ∃ x, l[k]? = some x := ⟨_, List.getElem?_eq_getElem hlt⟩
        obtain ⟨b, off, rfl, hb, hc⟩ := (HL.out.kept hB).at rfl hx
        have q0 : wr.cell? ⟨b, off + k, none⟩ = some (.string x) := by simpa using hc 0 _ rfl
        have Hx := Lib.hid hx
        clear hx hc
        cases hfit : fitB x with
        | false =>
          have HI := Lib.hid (show (decide ((1 : Int) ≤ (x.size : Int)) && decide ((x.size : Int) ≤ 4)) = false by
            rw [← hfit]
            unfold fitB
            congr 1 <;> rw [decide_eq_decide] <;> omega)
          have Hr := Lib.hid (H1.out (code_fit Hx.out hfit))
          clear hfit HS
          go_wp2_with fail
          refine (In_b x.size 1 4 false _ HI.out).mono ?_
          rintro e w1 ⟨rfl, hb1⟩
          go_wp2_with fail
          go_ret
          exact ⟨by rw [Hr.out]; rfl, up_later hB hb1⟩
        | true =>
          have HI := Lib.hid (show (decide ((1 : Int) ≤ (x.size : Int)) && decide ((x.size : Int) ≤ 4)) = true by
            rw [← hfit]
            unfold fitB
            congr 1 <;> rw [decide_eq_decide] <;> omega)
          have Hfit := Lib.hid hfit
          have x4 : x.size ≤ 4 := by
            unfold fitB at hfit
            simp at hfit
            omega
          clear hfit
          go_wp2_with fail
          refine (In_b x.size 1 4 true _ HI.out).mono ?_
          rintro e w1 ⟨rfl, hb1⟩
          have hB1 := up_later hB hb1
          have B11 := HB1.out.kept hb1
          clear c1 q0 hb1 HI
          go_wp2_with fail
          go_loopw [5] (fun i wr => ∃ j : Nat, j ≤ x.size ∧ i = iv j ∧ Hid (∀ m c, m < j → x.data.toList[m]? = some c → hasB [46, 45] c = true) ∧ Hid (Box wr w.heap.size 24 #[.slice (some ⟨b, off, none⟩) l.length cap]) ∧ Below w.heap.size w wr) (fun i _ => x.size - (intOf i).toNat)
          case atStart => exact ⟨0, by omega, rfl, Lib.hid (fun m _ h => absurd h (Nat.not_lt_zero _)), Lib.hid B11, hB1⟩
          case round =>
            obtain ⟨j, hj, rfl, HF, HB2, hB2⟩ := hrel
            by_cases hjl : j < x.size
            · have hjl' : (j : Int) < (x.size : Int) := by omega
              obtain ⟨c, hc⟩ : ∃ c, x.data.toList[j]? = some c := ⟨_, List.getElem?_eq_getElem (by rw [← Lib.size_eq]; exact hjl)⟩
              have hix : ∀ w, (Instr.index 9 (.string x) (iv j)).run Tryz.prog w = .ok (.int .u8 c.toNat) w := fun w => by
                rw [run_index_string w 9 x _ _ Tryz.underlying9, dif_pos (by omega)]
                have h := (List.getElem?_eq_some_iff.1 hc).2
                have e : x[(j : Int).toNat]'(by omega) = c := by rw [← h]; rfl
                rw [e]
              by_cases hs : hasB [46, 45] c = true
              · have hgo : Hid (∀ m c, m < j + 1 → x.data.toList[m]? = some c → hasB [46, 45] c = true) := Lib.hid (fun m c' h h' => by
                  rcases Nat.lt_or_ge m j with h1 | h1
                  · exact HF.out m c' h1 h'
                  · obtain rfl : m = j := by omega
                    rw [hc] at h'
                    injection h' with h'
                    rw [← h']
                    exact hs)
                clear HF
                rcases (flash_iff c).1 hs with rfl | rfl
                all_goals
                  clear hs hc
                  have hx := hix
                  simp only [UInt8.reduceToNat, Int.cast_ofNat_Int] at hx
                  clear hix
                  go_wp2_with fail
                  go_roundw
                  case rel => exact ⟨j + 1, by omega, by go_num, hgo, HB2, hB2⟩
                  case measure => simp [intOf]; omega
              · have Hr := Lib.hid (H1.out (code_flash Hx.out (show flashB x = false by
                  unfold flashB
                  rw [List.all_eq_false]
                  exact ⟨c, List.mem_of_getElem? hc, hs⟩)))
                have hn : ∀ n : Nat, n < 256 → n = 46 ∨ n = 45 → ¬ (c.toNat : Int) = n := fun n hn h e => hs ((flash_iff c).2 (by
                  have e' : c.toNat = n := by omega
                  rcases h with rfl | rfl
                  · exact .inl (UInt8.toNat_inj.1 e')
                  · exact .inr (UInt8.toNat_inj.1 e')))
                have n1 : ((c.toNat : Int) != 46) = true := bne_iff_ne.2 (hn 46 (by decide) (by decide))
                have n2 : ((c.toNat : Int) != 45) = true := bne_iff_ne.2 (hn 45 (by decide) (by decide))
                clear hn hs HF hc
                go_wp2_with fail
                go_ret
                exact ⟨by rw [Hr.out]; rfl, hB2⟩
            · have hjl' : ¬ (j : Int) < (x.size : Int) := by omega
              have Hfl := Lib.hid (show flashB x = true by
                unfold flashB
                rw [List.all_eq_true]
                intro c hc
                obtain ⟨m, hm⟩ := List.mem_iff_getElem?.1 hc
                exact HF.out m c (by
                  have := (List.getElem?_eq_some_iff.1 hm).1
                  rw [← Lib.size_eq] at this
                  omega) hm)
              clear HF
              go_wp2_with fail
              go_loopw [6] (fun i wr => ∃ m : Nat, m ≤ k ∧ i = iv m ∧ Hid (∀ j, j < m → ¬ l[j]? = some x) ∧ Hid (Box wr w.heap.size 24 #[.slice (some ⟨b, off, none⟩) l.length cap]) ∧ Below w.heap.size w wr) (fun i _ => k - (intOf i).toNat)
              case atStart => exact ⟨0, by omega, rfl, Lib.hid (fun m h => absurd h (Nat.not_lt_zero _)), HB2, hB2⟩
              case round =>
                obtain ⟨m, hm, rfl, HN, HB3, hB3⟩ := hrel
                by_cases hml : m < k
                · have hml' : (m : Int) < (k : Int) := by omega
                  have m0 : (0 : Int) ≤ (m : Int) := by omega
                  have ml : (m : Int) < (l.length : Int) := by omega
                  obtain ⟨y, hy⟩ : ∃ y, l[m]? = some y := ⟨_, List.getElem?_eq_getElem (by omega)⟩
                  obtain ⟨b', off', e', hb', hc'⟩ := (HL.out.kept hB3).at rfl hy
                  injection e' with e'
                  injection e' with e1 e2
                  subst e1 e2
                  have q1 : wr.cell? ⟨b, off + m, none⟩ = some (.string y) := by simpa using hc' 0 _ rfl
                  have Hy := Lib.hid hy
                  have c3 := fun i => HB3.out.cell i
                  clear hy hc'
                  by_cases hxy : y = x
                  · subst hxy
                    have Hr := Lib.hid (H1.out (code_twice Hx.out Hy.out hml))
                    go_wp2_with fail
                    go_ret
                    exact ⟨by rw [Hr.out]; rfl, hB3⟩
                  · have hne : (y.toList == x.toList) = false := bytes_ne hxy
                    have HN2 : Hid (∀ j, j < m + 1 → ¬ l[j]? = some x) := Lib.hid (fun j h h' => by
                      rcases Nat.lt_or_ge j m with h1 | h1
                      · exact HN.out j h1 h'
                      · obtain rfl : j = m := by omega
                        rw [Hy.out] at h'
                        exact hxy (Option.some.inj h'))
                    go_wp2_with fail
                    go_roundw
                    case rel => exact ⟨m + 1, by omega, by go_num, HN2, HB3, hB3⟩
                    case measure => simp [intOf]; omega
                · have hml' : ¬ (m : Int) < (k : Int) := by omega
                  have HS2 := Lib.hid (seen_step HS.out Hx.out Hfit.out Hfl.out (fun j h => HN.out j (by omega)))
                  clear HN HS
                  go_wp2_with fail
                  go_roundw
                  case rel => exact ⟨k + 1, by omega, by go_num, HS2, HB3, hB3⟩
                  case measure => simp [intOf]; omega
      · have kl : ¬ (k : Int) < (l.length : Int) := by omega
        obtain rfl : k = l.length := by omega
        by_cases h0 : l.length = 0
        · have h0' : ((l.length : Int) == 0) = true := by rw [beq_iff_eq]; omega
          have Hr := Lib.hid (H1.out (show codeB l = false by unfold codeB; rw [decide_eq_false (by omega), Bool.false_and]))
          clear h0
          go_wp2_with fail
          go_ret
          exact ⟨by rw [Hr.out]; rfl, hB⟩
        · have h0' : ((l.length : Int) == 0) = false := by rw [beq_eq_false_iff_ne]; omega
          have Hr := Lib.hid (H0.out (seen_all HS.out (by omega)))
          go_wp2_with fail
          go_ret
          exact ⟨by rw [Hr.out]; rfl, hB⟩
set_option maxRecDepth 100000 in
theorem fault_any (v : Value) (l : List ByteArray) (w : World) (hl : RowsAny w v 1 sc l) : Calls Tryz.prog 24 #[.agg #[v]] w fun e w' => e = .returned (iv (codeE l)) ∧ Below w.heap.size w w' := by
  have HL := Lib.hid hl
  clear hl
  go_enter Tryz.func24, Tryz.ntmps24
  have B1 := Box.new (w := w) (t := 24) (cs := #[v]) rfl
  have c1 := fun i => B1.cell i
  go_wp2_with fail
  refine (Fault_any v l _ (HL.out.kept (up_alloc up0 _))).mono ?_
  rintro e w1 ⟨rfl, hb1⟩
  go_wp2_with fail
  go_ret
  exact ⟨rfl, up_later (up_alloc up0 _) hb1⟩
end Go.Proofs.YtonekgefegfapaaGreat

namespace Go.Proofs.YtonekgefegfapaaGreat
open Go.RowKit

def shortB (ps : List (Value × List Int)) : Bool := decide (ps.length ≤ 70) && ps.all fun p => decide (p.2.length ≤ 9)
theorem short_wide {ps : List (Value × List Int)} {k : Nat} {x : Value × List Int} (hx : ps[k]? = some x) (h : 9 < x.2.length) : shortB ps = false := by
  have : (ps.all fun p => decide (p.2.length ≤ 9)) = false := by
    rw [List.all_eq_false]
    exact ⟨x, List.mem_of_getElem? hx, by simp; omega⟩
  unfold shortB
  rw [this, Bool.and_false]
theorem short_long {ps : List (Value × List Int)} (h : 70 < ps.length) : shortB ps = false := by
  unfold shortB
  rw [decide_eq_false (by omega), Bool.false_and]
theorem short_yes {ps : List (Value × List Int)} (h : ps.length ≤ 70) (hs : ∀ j x, j < ps.length → ps[j]? = some x → x.2.length ≤ 9) : shortB ps = true := by
  unfold shortB
  rw [decide_eq_true h, Bool.true_and, List.all_eq_true]
  intro x hx
  obtain ⟨j, hj⟩ := List.mem_iff_getElem?.1 hx
  exact decide_eq_true (hs j x (List.getElem?_eq_some_iff.1 hj).1 hj)
theorem shortB_ok {ps : List (Value × List Int)} (h : shortB ps = true) : ps.length ≤ 70 ∧ ∀ p ∈ ps, p.2.length ≤ 9 := by
  unfold shortB at h
  rw [Bool.and_eq_true] at h
  exact ⟨of_decide_eq_true h.1, fun p hp => of_decide_eq_true (List.all_eq_true.1 h.2 p hp)⟩
set_option maxRecDepth 100000 in
set_option maxHeartbeats 1500000 in
theorem short_any (v : Value) (ps : List (Value × List Int)) (w : World) (ht : TextsAny w v ps) : Calls Tryz.prog 39 #[v] w fun e w' => e = .returned (.bool (shortB ps)) ∧ Below w.heap.size w w' := by
  obtain ⟨A, cap, hv, hca, hcm⟩ := ht.1.form
  subst hv
  have hla : ps.length ≤ 9223372036854775807 := Nat.le_trans hca hcm
  have HT := Lib.hid ht
  clear ht hca hcm
  go_enter Tryz.func39, Tryz.ntmps39
  go_wp2_with fail
  go_loopw [3] (fun i wr => ∃ k : Nat, k ≤ ps.length ∧ k ≤ 71 ∧ i = iv k ∧ Hid (∀ j x, j < k → ps[j]? = some x → x.2.length ≤ 9) ∧ Below w.heap.size w wr) (fun i _ => ps.length - (intOf i).toNat)
  case atStart => exact ⟨0, by omega, by omega, rfl, Lib.hid (fun j _ h => absurd h (Nat.not_lt_zero _)), Below.refl _ _⟩
  case round =>
    obtain ⟨k, hk, hk71, rfl, HS, hB⟩ := hrel
    by_cases hlt : k < ps.length
    · have hlt' : (k : Int) < (ps.length : Int) := by omega
      by_cases h71 : k < 71
      · have h71' : (k : Int) < 71 := by omega
        have k0 : (0 : Int) ≤ (k : Int) := by omega
        obtain ⟨x, hx⟩ : ∃ x, ps[k]? = some x := ⟨_, List.getElem?_eq_getElem hlt⟩
        obtain ⟨b, off, rfl, hb, q0, r0⟩ := (HT.out.kept hB).at hx
        obtain ⟨xA, xc, hxv, -, -⟩ := r0.form
        rw [hxv] at q0
        have Hx := Lib.hid hx
        clear hx r0 hxv
        by_cases h9 : 9 < x.2.length
        · have h9' : (9 : Int) < (x.2.length : Int) := by omega
          have Hr := Lib.hid (short_wide Hx.out h9)
          go_wp2_with fail
          go_ret
          exact ⟨ret_bool Hr.out.symm, hB⟩
        · have h9' : ¬ (9 : Int) < (x.2.length : Int) := by omega
          have HN : Hid (∀ j x, j < k + 1 → ps[j]? = some x → x.2.length ≤ 9) := Lib.hid fun j y hj hy => by
            rcases Nat.lt_or_ge j k with h | h
            · exact HS.out j y h hy
            · obtain rfl : j = k := by omega
              rw [Hx.out] at hy
              obtain rfl := Option.some.inj hy
              omega
          go_wp2_with fail
          go_roundw
          case rel => exact ⟨k + 1, by omega, by omega, by go_num, HN, hB⟩
          case measure => simp [intOf]; omega
      · have h71' : ¬ (k : Int) < 71 := by omega
        have hle : ¬ (ps.length : Int) ≤ 70 := by omega
        have Hr := Lib.hid (short_long (ps := ps) (by omega))
        go_wp2_with fail
        go_ret
        exact ⟨ret_bool Hr.out.symm, hB⟩
    · have hlt' : ¬ (k : Int) < (ps.length : Int) := by omega
      obtain rfl : k = ps.length := by omega
      by_cases h9 : ps.length ≤ 70
      · have hle : (ps.length : Int) ≤ 70 := by omega
        have Hr := Lib.hid (short_yes h9 HS.out)
        go_wp2_with fail
        go_ret
        exact ⟨ret_bool Hr.out.symm, hB⟩
      · have hle : ¬ (ps.length : Int) ≤ 70 := by omega
        have Hr := Lib.hid (short_long (ps := ps) (by omega))
        go_wp2_with fail
        go_ret
        exact ⟨ret_bool Hr.out.symm, hB⟩
theorem texts_info : (Tryz.prog.info? 25).map (fun i => (i.zero, i.size, i.bytes)) = some (some (.slice none 0 0), 1, 24) := by kernel_rfl
/-- Lists of the call's own. -/
def OwnTexts (B : Nat) (w : World) (v : Value) (ts : List (List Int)) : Prop := ∃ vs : List Value, w.ownsRow B 25 1 v ts.length vs ∧ ∀ (i : Nat) (u : Value) (t : List Int), vs[i]? = some u → ts[i]? = some t → w.ownsRow B 3 1 u t.length (t.map fun x => iv x)
theorem OwnTexts.kept {B : Nat} {w w' : World} {v : Value} {ts : List (List Int)} (h : OwnTexts B w v ts) (hb : Below w.heap.size w w') : OwnTexts B w' v ts := by
  obtain ⟨vs, h1, h3⟩ := h
  exact ⟨vs, own_below h1 hb, fun i u t hu ht => own_below (h3 i u t hu ht) hb⟩
/-- Lists of one's own read as lists that came in. -/
theorem OwnTexts.any {B : Nat} {w : World} {v : Value} {ts : List (List Int)} (h : OwnTexts B w v ts) (hn : ts.length ≤ 1000) (hs : ∀ t ∈ ts, t.length ≤ 1000) : ∃ qs : List (Value × List Int), TextsAny w v qs ∧ qs.map (·.2) = ts := by
  obtain ⟨vs, h1, h3⟩ := h
  have h2 : vs.length = ts.length := by have := h1.1; omega
  have e1 : (vs.zip ts).map (·.1) = vs := List.map_fst_zip (by omega)
  have e2 : (vs.zip ts).map (·.2) = ts := List.map_snd_zip (by omega)
  have hf : (vs.zip ts).flatMap pc = vs := by
    have : (vs.zip ts).flatMap pc = (vs.zip ts).map (·.1) := by
      induction vs.zip ts with
      | nil => rfl
      | cons x l ih => rw [List.flatMap_cons, ih]; rfl
    rw [this, e1]
  have hl : (vs.zip ts).length = ts.length := by rw [List.length_zip]; omega
  refine ⟨vs.zip ts, ⟨rows_any (rows_of_own (cells := pc) (by rw [hf]; exact h1) hl.symm (fun _ => rfl) (by omega)), fun p hp => ?_⟩, e2⟩
  obtain ⟨i, hi⟩ := List.mem_iff_getElem?.1 hp
  have hz := List.getElem?_zip_eq_some.1 hi
  exact rows_any (text_rows (h3 i p.1 p.2 hz.1 hz.2) (hs _ (List.mem_of_getElem? hz.2)))
/-- One more list of one's own. -/
theorem OwnTexts.app {B : Nat} {w1 wt w3 : World} {vF v' u : Value} {us : List Value} {fs : List (List Int)} {t : List Int} (oF : w1.ownsRow B 25 1 vF fs.length us)
    (eF : ∀ (i : Nat) (v : Value) (t : List Int), us[i]? = some v → fs[i]? = some t → w1.ownsRow B 3 1 v t.length (t.map fun x => iv x)) (oC : w1.ownsRow B 3 1 u t.length (t.map fun x => iv x)) (hwt : Below w1.heap.size w1 wt) (hg : wt.grownBy w3 vF.ownBlock)
    (oV : w3.ownsRow B 25 1 v' (fs.length + 1) (us ++ [u])) : OwnTexts B w3 v' (fs ++ [t]) := by
  have hlu : us.length = fs.length := by have := oF.1; omega
  refine ⟨us ++ [u], by rw [List.length_append]; exact oV, fun i y t' hy ht => ?_⟩
  by_cases hi : i < fs.length
  · rw [List.getElem?_append_left (by omega)] at hy ht
    have o1 := own_below (eF i y t' hy ht) hwt
    exact o1.kept hg (own_apart o1 (own_below oF hwt) (by decide))
  · rw [List.getElem?_append_right (by omega)] at hy ht
    have hi0 : i - fs.length = 0 := by
      have := (List.getElem?_eq_some_iff.1 ht).1
      simp at this
      omega
    rw [hlu, hi0] at hy
    rw [hi0] at ht
    obtain rfl : u = y := by simpa using hy
    obtain rfl : t = t' := by simpa using ht
    have o1 := own_below oC hwt
    exact o1.kept hg (own_apart o1 (own_below oF hwt) (by decide))
set_option maxRecDepth 100000 in
set_option maxHeartbeats 3000000 in
theorem rows_walk (v : Value) (ps : List (Value × List Int)) (w : World) (ht : TextsAny w v ps) (hn : ps.length ≤ 1000) (hs : ∀ p ∈ ps, p.2.length ≤ 1000) : Calls Tryz.prog 41 #[v] w fun e w' => ∃ u, e = .returned u ∧ OwnTexts w.heap.size w' u (ps.map (·.2)) ∧ Below w.heap.size w w' := by
  obtain ⟨A, cap, hv, -, -⟩ := ht.1.form
  subst hv
  have HT := Lib.hid ht
  have HSs := Lib.hid hs
  clear ht hs
  obtain ⟨i0, hi0, hz0, hz1, hz2⟩ := info_parts texts_info
  go_enter Tryz.func41, Tryz.ntmps41
  go_wp2_with fail
  go_loopw [3, 4] (fun o i wr => ∃ k : Nat, k ≤ ps.length ∧ i = iv k ∧ Hid (OwnTexts w.heap.size wr o ((ps.take k).map (·.2))) ∧ Below w.heap.size w wr) (fun _ i _ => ps.length - (intOf i).toNat)
  case atStart => exact ⟨0, by omega, rfl, Lib.hid ⟨[], ⟨by simp, .inl ⟨rfl, by simp⟩⟩, fun i u t hu => by simp at hu⟩, Below.refl _ _⟩
  case round =>
    obtain ⟨k, hk, rfl, HO, hB⟩ := hrel
    by_cases hlt : k < ps.length
    · have hlt' : (k : Int) < (ps.length : Int) := by omega
      have k0 : (0 : Int) ≤ (k : Int) := by omega
      obtain ⟨x, hx⟩ : ∃ x, ps[k]? = some x := ⟨_, List.getElem?_eq_getElem hlt⟩
      obtain ⟨b, off, rfl, hb, q0, r0⟩ := (HT.out.kept hB).at hx
      have R0 := Lib.hid (r0.rows (HSs.out x (List.mem_of_getElem? hx)))
      have Hx := Lib.hid (show (ps.take (k + 1)).map (·.2) = (ps.take k).map (·.2) ++ [x.2] by rw [List.take_add_one, hx]; simp)
      have htk : ((ps.take k).map (·.2)).length = k := by rw [List.length_map, List.length_take]; omega
      clear hx r0
      go_wp2_with fail
      refine (list_own x.1 x.2 _ R0.out).mono ?_
      rintro e w1 ⟨u, rfl, hu, hb1⟩
      have hB1 := up_later hB hb1
      have hz1w := hB1.size
      have hu2 := own_mono hu (show w.heap.size ≤ _ from hB.size)
      obtain ⟨vs, ho, hvr⟩ := HO.out
      rw [htk] at ho
      have HO1 := Lib.hid (own_below ho hb1)
      have HU := Lib.hid hu2
      have HV := Lib.hid (fun i u t hu ht => own_below (hvr i u t hu ht) hb1)
      obtain ⟨A3, m3, p3, hform⟩ := own_form ho
      subst hform
      obtain ⟨A4, m4, p4, hform⟩ := own_form hu
      subst hform
      clear hb1 hu ho hvr hu2
      go_wp2_with (at_builtin; refine wpList_append_own_at _ rfl (.tmp 11) (.tmp 17) 50 rfl w.heap.size 25 i0 _ 1 24 Tryz.underlying50 hi0 hz0 hz1 hz2 rfl (by decide) _ _ _ rfl (own_below HO1.out (up_alloc up0 _)) ⟨w1.heap.size, 0, none⟩ 1 1 [.slice A4 m4 p4] rfl rfl (box_newsM (Box.new rfl)) (by simp [Value.oneCell']) (by unfold maxLen; omega) (by omega) (by simp; omega) ?_; intro v' w3 hown' hgrow _ _)
      have hO' := own_below HO1.out (w' := w1.alloc (.cells #[.slice A4 m4 p4] 25)) (up_alloc up0 _)
      go_roundw
      case rel =>
        refine ⟨k + 1, by omega, by go_num, Lib.hid ?_, (up_alloc hB1 _).grown hgrow (by simp; omega) (fun b' hb' => (hO'.lt b' hb').1)⟩
        rw [Hx.out]
        exact OwnTexts.app (w1 := w1) (by rw [htk]; exact HO1.out) HV.out HU.out (up_alloc up0 _) hgrow (by rw [htk]; exact hown')
      case measure => simp [intOf]; omega
    · have hlt' : ¬ (k : Int) < (ps.length : Int) := by omega
      have HO2 : Hid (OwnTexts w.heap.size wr u3 (ps.map (·.2))) := Lib.hid (by have h := HO.out; rwa [List.take_of_length_le (by omega)] at h)
      go_wp2_with fail
      go_ret
      exact ⟨_, rfl, HO2.out, hB⟩
end Go.Proofs.YtonekgefegfapaaGreat

namespace Go.Proofs.YtonekgefegfapaaGreat
open Go.RowKit

theorem sgnF_more (l : List ByteArray) (t u : List Int) : ∀ n, n ≤ t.length → sgnF l (t ++ u) n = sgnF l t n
  | 0, _ => rfl
  | n + 1, h => by
    rw [sgnF_succ, sgnF_succ, sgnF_more l t u n (by omega), List.getD_eq_getElem?_getD, List.getElem?_append_left (by omega), List.getD_eq_getElem?_getD]
theorem sgnI_snoc (l : List ByteArray) (t : List Int) (i : Int) : sgnI l (t ++ [i]) = sgnI l t ++ (addS l i.toNat (t.length == 0)).data.toList := by
  unfold sgnI
  rw [List.length_append, List.length_singleton, sgnF_succ, sgnF_more l t [i] _ (Nat.le_refl _), List.getD_eq_getElem?_getD, List.getElem?_append_right (Nat.le_refl _), Nat.sub_self]
  rfl
theorem sgnI_nil (l : List ByteArray) : sgnI l [] = [] := rfl
theorem addS_gap (l : List ByteArray) (x : Nat) : ∃ T, (addS l x false).data.toList = 32 :: T := ⟨(l.getD x ⟨#[]⟩).data.toList, by unfold addS; rw [if_neg (by simp)]; simp⟩
theorem gap_kid (l : List ByteArray) (t : List Int) (i : Nat) : Gap (sgnI l t) (kidB l t i).data.toList := by
  unfold kidB
  rcases t with _ | ⟨x, t⟩
  · exact .inl rfl
  · exact .inr (.inr (addS_gap l i))
/-- What is behind a text's signs begins with a gap. -/
theorem sgnI_cut (l : List ByteArray) (t : List Int) : ∀ (u : List Int), ∃ Q, sgnI l (t ++ u) = sgnI l t ++ Q ∧ Gap (sgnI l t) Q := by
  intro u
  by_cases ht : t = []
  · subst ht
    exact ⟨sgnI l u, rfl, .inl rfl⟩
  · have h : ∀ n (u : List Int), u.length = n → ∃ Q, sgnI l (t ++ u) = sgnI l t ++ Q ∧ (Q = [] ∨ ∃ T, Q = 32 :: T) := by
      intro n
      induction n with
      | zero => intro u hu; exact ⟨[], by rw [List.eq_nil_of_length_eq_zero hu, List.append_nil, List.append_nil], .inl rfl⟩
      | succ n ih =>
        intro u hu
        have hne : u ≠ [] := fun e => by subst e; simp at hu
        obtain ⟨Q, h1, h2⟩ := ih u.dropLast (by rw [List.length_dropLast, hu]; rfl)
        have e : t ++ u = (t ++ u.dropLast) ++ [u.getLast hne] := by rw [List.append_assoc, List.dropLast_concat_getLast]
        have h0 : ((t ++ u.dropLast).length == 0) = false := by
          rw [List.length_append, beq_eq_false_iff_ne]
          have := List.length_pos_iff.2 ht
          omega
        obtain ⟨T, hT⟩ := addS_gap l (u.getLast hne).toNat
        refine ⟨Q ++ 32 :: T, by rw [e, sgnI_snoc, h0, hT, h1, List.append_assoc], .inr ?_⟩
        rcases h2 with rfl | ⟨T', rfl⟩
        · exact ⟨T, rfl⟩
        · exact ⟨T' ++ 32 :: T, rfl⟩
    obtain ⟨Q, h1, h2⟩ := h _ u rfl
    exact ⟨Q, h1, .inr h2⟩
theorem row_end {P R : By} {E : Nat} {r : List Nat} (hE : E < 120) (h : RowIs P R E r) : ¬ r.getD R.length 120 = 120 ↔ fewI P R (0, 0) ≤ E := by
  rw [few_iff hE]
  constructor
  · intro hn
    rcases h.sound R.length (Nat.le_refl _) with h1 | ⟨h1, h2⟩
    · exact absurd h1 hn
    · exact ⟨_, h1, h2⟩
  · rintro ⟨e, he, hw⟩
    have := h.full R.length e (Nat.le_refl _) he hw
    omega
theorem row_hope {P Q R : By} {E : Nat} (hE : E < 120) (h : RowIs P R E (hopeL 41)) (hg : Gap P Q) : ¬ fewI (P ++ Q) R (0, 0) ≤ E := by
  rw [few_iff hE]
  rintro ⟨e, he, hw⟩
  rw [List.length_append] at hw
  obtain ⟨c0, e0, e1, w0, _, rfl, hc0⟩ := (way_both hg).1 hw
  have := h.full c0 e0 hc0 (by omega) w0
  rw [hope_get] at this
  omega
theorem one_if {α : Type} {x t : α} {n : Nat} : (x ∈ if n ≠ 120 then [t] else []) ↔ x = t ∧ ¬ n = 120 := by
  by_cases h : n = 120
  · rw [if_neg (fun q => q h)]
    exact ⟨fun q => (nomatch q), fun q => absurd h q.2⟩
  · rw [if_pos h, List.mem_singleton]
    exact ⟨fun q => ⟨q, h⟩, fun q => q.1⟩
/-- **What the search finds.** -/
theorem addF_iff {l : List ByteArray} {R : By} {E : Nat} (hR : R.length ≤ 40) (hE : E < 120) : ∀ (f : Nat) (t : List Int) (r : List Nat), RowIs (sgnI l t) R E r → (∀ x ∈ r, x ≤ 120) → ∀ x, x ∈ addF l R E f t r ↔ ∃ u, x = t ++ u ∧ u.length ≤ f ∧ (∀ y ∈ u, letB l.length y = true) ∧ fewI (sgnI l x) R (0, 0) ≤ E := by
  intro f
  induction f with
  | zero =>
    intro t r hr _ x
    have hone : (∃ u, x = t ++ u ∧ u.length ≤ 0 ∧ (∀ y ∈ u, letB l.length y = true) ∧ fewI (sgnI l x) R (0, 0) ≤ E) ↔ x = t ∧ fewI (sgnI l t) R (0, 0) ≤ E := by
      constructor
      · rintro ⟨u, rfl, hu, _, he⟩
        obtain rfl : u = [] := List.eq_nil_of_length_eq_zero (by omega)
        rw [List.append_nil] at he ⊢
        exact ⟨rfl, he⟩
      · rintro ⟨rfl, he⟩
        exact ⟨[], by simp, by simp, by simp, he⟩
    rw [hone, ← row_end hE hr]
    unfold addF
    by_cases hh : r = hopeL 41
    · rw [if_pos hh, hh, hope_get]
      simp
    · rw [if_neg hh]
      exact one_if
  | succ f ih =>
    intro t r hr h120 x
    unfold addF
    by_cases hh : r = hopeL 41
    · rw [if_pos hh]
      constructor
      · intro h; cases h
      · rintro ⟨u, rfl, _, _, he⟩
        obtain ⟨Q, h1, h2⟩ := sgnI_cut l t u
        rw [h1] at he
        exact absurd he (row_hope hE (hh ▸ hr) h2)
    · rw [if_neg hh, List.mem_append, List.mem_flatMap]
      have hself : (x ∈ if r.getD R.length 120 ≠ 120 then [t] else []) ↔ x = t ∧ fewI (sgnI l t) R (0, 0) ≤ E := by
        rw [← row_end hE hr]
        exact one_if
      rw [hself]
      have hkid : ∀ i : Nat, x ∈ addF l R E f (t ++ [(i : Int)]) (sendN (kidB l t i).data.toList R E r) ↔ ∃ u, x = (t ++ [(i : Int)]) ++ u ∧ u.length ≤ f ∧ (∀ y ∈ u, letB l.length y = true) ∧ fewI (sgnI l x) R (0, 0) ≤ E := fun i => by
        have hs := send_is hR hE (gap_kid l t i) hr h120
        have e : sgnI l t ++ (kidB l t i).data.toList = sgnI l (t ++ [(i : Int)]) := by rw [sgnI_snoc]; rfl
        rw [e] at hs
        exact ih _ _ hs (send_120 hr.len h120) x
      constructor
      · rintro (⟨rfl, he⟩ | ⟨i, hi, h⟩)
        · exact ⟨[], by simp, by simp, by simp, he⟩
        · obtain ⟨u, rfl, h1, h2, h3⟩ := (hkid i).1 h
          refine ⟨(i : Int) :: u, by simp, by simp; omega, fun y hy => ?_, h3⟩
          rcases List.mem_cons.1 hy with rfl | hy
          · have := List.mem_range.1 hi
            unfold letB
            simp
            omega
          · exact h2 y hy
      · rintro ⟨u, rfl, h1, h2, h3⟩
        rcases u with _ | ⟨y, u⟩
        · rw [List.append_nil] at h3 ⊢
          exact .inl ⟨rfl, h3⟩
        · have hy := h2 y (List.mem_cons_self ..)
          unfold letB at hy
          have hy2 : 0 ≤ y ∧ y < (l.length : Int) := by simpa using hy
          obtain ⟨i, rfl⟩ : ∃ i : Nat, y = i := ⟨y.toNat, by omega⟩
          refine .inr ⟨i, List.mem_range.2 (by omega), (hkid i).2 ⟨u, by simp, by simp at h1; omega, fun z hz => h2 z (List.mem_cons_of_mem _ hz), h3⟩⟩
theorem addF_nodup {l : List ByteArray} {R : By} {E : Nat} : ∀ (f : Nat) (t : List Int) (r : List Nat), (addF l R E f t r).Nodup ∧ ∀ x ∈ addF l R E f t r, ∃ u, x = t ++ u
  | 0, t, r => by
    unfold addF
    split
    · exact ⟨List.nodup_nil, by simp⟩
    · split
      · exact ⟨by simp, fun x hx => ⟨[], by simpa using hx⟩⟩
      · exact ⟨List.nodup_nil, by simp⟩
  | f + 1, t, r => by
    unfold addF
    split
    · exact ⟨List.nodup_nil, by simp⟩
    · have hpre : ∀ x ∈ (List.range l.length).flatMap (fun i : Nat => addF l R E f (t ++ [(i : Int)]) (sendN (kidB l t i).data.toList R E r)), ∃ i : Nat, ∃ u, x = t ++ (i : Int) :: u := fun x hx => by
        obtain ⟨i, _, h⟩ := List.mem_flatMap.1 hx
        obtain ⟨u, rfl⟩ := (addF_nodup f _ _).2 x h
        exact ⟨i, u, by simp⟩
      refine ⟨List.nodup_append.2 ⟨by split <;> simp, ?_, fun x hx y hy => ?_⟩, fun x hx => ?_⟩
      · unfold List.Nodup
        rw [List.pairwise_flatMap]
        refine ⟨fun i _ => (addF_nodup f _ _).1, ?_⟩
        refine (List.nodup_range (n := l.length)).imp fun {i j} hij x hx y hy e => ?_
        obtain ⟨u, hu⟩ := (addF_nodup f _ _).2 x hx
        obtain ⟨v, hv⟩ := (addF_nodup f _ _).2 y hy
        rw [e, hv] at hu
        simp only [List.append_assoc, List.singleton_append, List.append_cancel_left_eq, List.cons.injEq] at hu
        exact hij (by omega)
      · have hx : x = t := by
          split at hx
          · simpa using hx
          · cases hx
        obtain ⟨i, u, rfl⟩ := hpre y hy
        rw [hx]
        intro e
        have := congrArg List.length e
        simp at this
      · rcases List.mem_append.1 hx with hx | hx
        · split at hx
          · exact ⟨[], by simpa using hx⟩
          · cases hx
        · obtain ⟨i, u, rfl⟩ := hpre x hx
          exact ⟨_, rfl⟩
/-- **What a list of texts holds.** -/
theorem texts_iff {l : List ByteArray} {R : By} {E K : Nat} {ts : List (List Int)} (hR : R.length ≤ 40) (hE : E < 120) (h : IsTexts l R E K ts) (x : List Int) : x ∈ ts ↔ x.length ≤ K ∧ (∀ y ∈ x, letB l.length y = true) ∧ fewI (sgnI l x) R (0, 0) ≤ E := by
  obtain ⟨h1, h2⟩ := start_is (R := R) hR hE
  rw [h.1.mem_iff, addF_iff hR hE K [] (startN R E) h1 h2 x]
  constructor
  · rintro ⟨u, rfl, h⟩
    exact h
  · intro h
    exact ⟨x, rfl, h⟩
theorem texts_nodup {l : List ByteArray} {R : By} {E K : Nat} {ts : List (List Int)} (h : IsTexts l R E K ts) : ts.Nodup := h.1.nodup_iff.2 (addF_nodup K [] _).1
end Go.Proofs.YtonekgefegfapaaGreat

namespace Go.Proofs.YtonekgefegfapaaGreat
open Go.RowKit

/-- A valid code, and a text of it. -/
def readyB (l : List ByteArray) (t : List Int) : Bool := thinB l && (decide (codeE l = 0) && (decide (t.length ≤ 5) && t.all (letB l.length)))
theorem readyB_ok {l : List ByteArray} {t : List Int} (h : readyB l t = true) : l.length ≤ 6 ∧ codeB l = true ∧ codeE l = 0 ∧ (∀ s ∈ l, s.size ≤ 4) ∧ t.length ≤ 5 ∧ t.all (letB l.length) = true := by
  unfold readyB at h
  simp only [Bool.and_eq_true, decide_eq_true_eq] at h
  obtain ⟨_, h1, h2, h3⟩ := h
  exact ⟨(codeE_len h1).1, (codeE_len h1).2, h1, codeB_four (codeE_len h1).2, h2, h3⟩
set_option maxRecDepth 100000 in
set_option maxHeartbeats 1500000 in
theorem ready_any (v u : Value) (l : List ByteArray) (t : List Int) (w : World) (hl : RowsAny w v 1 sc l) (ht : RowsAny w u 1 ic t) : Calls Tryz.prog 45 #[.agg #[v], u] w fun e w' => e = .returned (.bool (readyB l t)) ∧ Below w.heap.size w w' := by
  obtain ⟨A, cap, hv, -, -⟩ := ht.form
  subst hv
  have HL := Lib.hid hl
  have HT := Lib.hid ht
  clear hl ht
  cases hth : thinB l with
  | false =>
    have HTh := Lib.hid (show (thinB l && decide ((⟨#[]⟩ : ByteArray).size ≤ 60)) = false by rw [hth]; rfl)
    have Hr := Lib.hid (show readyB l t = false by unfold readyB; rw [hth]; rfl)
    clear hth
    go_enter Tryz.func45, Tryz.ntmps45
    have B1 := Box.new (w := w) (t := 24) (cs := #[v]) rfl
    have c1 := fun i => B1.cell i
    go_wp2_with fail
    refine (Thin_any v l ⟨#[]⟩ _ (HL.out.kept (up_alloc up0 _))).mono ?_
    rintro e w1 ⟨rfl, hb1⟩
    rw [HTh.out]
    go_wp2_with fail
    go_ret
    exact ⟨ret_bool Hr.out.symm, up_later (up_alloc up0 _) hb1⟩
  | true =>
    have HTh := Lib.hid (show (thinB l && decide ((⟨#[]⟩ : ByteArray).size ≤ 60)) = true by rw [hth]; rfl)
    have hl9 : l.length ≤ 1000 := by
      have h := hth
      unfold thinB at h
      simp at h
      omega
    have Hth := Lib.hid hth
    clear hth
    obtain ⟨C, hC⟩ : ∃ C, codeE l = C := ⟨_, rfl⟩
    have HC := Lib.hid hC
    by_cases hC0 : C = 0
    case neg =>
      have e1 : (C == 0) = false := beq_eq_false_iff_ne.2 hC0
      have Hr := Lib.hid (show readyB l t = false by unfold readyB; rw [hC, decide_eq_false hC0, Bool.false_and, Bool.and_false])
      clear hC hC0
      go_enter Tryz.func45, Tryz.ntmps45
      have B1 := Box.new (w := w) (t := 24) (cs := #[v]) rfl
      have c1 := fun i => B1.cell i
      go_wp2_with fail
      refine (Thin_any v l ⟨#[]⟩ _ (HL.out.kept (up_alloc up0 _))).mono ?_
      rintro e w1 ⟨rfl, hb1⟩
      rw [HTh.out]
      have hB1 := up_later (up_alloc up0 _) hb1
      have B1 := B1.kept hb1
      have c1 := fun i => B1.cell i
      clear hb1
      go_wp2_with fail
      refine (fault_any v l _ (HL.out.kept hB1)).mono ?_
      rintro e w2 ⟨rfl, hb2⟩
      rw [HC.out]
      go_wp2_with fail
      go_ret
      exact ⟨ret_bool Hr.out.symm, up_later hB1 hb2⟩
    subst hC0
    by_cases h5 : 5 < t.length
    · have h5' : ¬ (t.length : Int) ≤ 5 := by omega
      have Hr := Lib.hid (show readyB l t = false by unfold readyB; rw [decide_eq_false (show ¬ t.length ≤ 5 by omega), Bool.false_and, Bool.and_false, Bool.and_false])
      clear hC
      go_enter Tryz.func45, Tryz.ntmps45
      have B1 := Box.new (w := w) (t := 24) (cs := #[v]) rfl
      have c1 := fun i => B1.cell i
      go_wp2_with fail
      refine (Thin_any v l ⟨#[]⟩ _ (HL.out.kept (up_alloc up0 _))).mono ?_
      rintro e w1 ⟨rfl, hb1⟩
      rw [HTh.out]
      have hB1 := up_later (up_alloc up0 _) hb1
      have B1 := B1.kept hb1
      have c1 := fun i => B1.cell i
      clear hb1
      go_wp2_with fail
      refine (fault_any v l _ (HL.out.kept hB1)).mono ?_
      rintro e w2 ⟨rfl, hb2⟩
      rw [HC.out]
      go_wp2_with fail
      go_ret
      exact ⟨ret_bool Hr.out.symm, up_later hB1 hb2⟩
    · have h5' : (t.length : Int) ≤ 5 := by omega
      have Hr := Lib.hid (show readyB l t = t.all (letB l.length) by unfold readyB; rw [Hth.out, hC, decide_eq_true (show t.length ≤ 5 by omega)]; rfl)
      clear hC
      go_enter Tryz.func45, Tryz.ntmps45
      have B1 := Box.new (w := w) (t := 24) (cs := #[v]) rfl
      have c1 := fun i => B1.cell i
      go_wp2_with fail
      refine (Thin_any v l ⟨#[]⟩ _ (HL.out.kept (up_alloc up0 _))).mono ?_
      rintro e w1 ⟨rfl, hb1⟩
      rw [HTh.out]
      have hB1 := up_later (up_alloc up0 _) hb1
      have B1 := B1.kept hb1
      have c1 := fun i => B1.cell i
      clear hb1
      go_wp2_with fail
      refine (fault_any v l _ (HL.out.kept hB1)).mono ?_
      rintro e w2 ⟨rfl, hb2⟩
      rw [HC.out]
      have hB2 := up_later hB1 hb2
      have B1 := B1.kept hb2
      have c1 := fun i => B1.cell i
      clear hb2 hB1
      go_wp2_with fail
      refine (IsText_any v _ l t _ ((HL.out.kept hB2).rows hl9) (HT.out.kept hB2)).mono ?_
      rintro e w3 ⟨rfl, hb3⟩
      have hB3 := up_later hB2 hb3
      clear hb3 hB2
      rw [← Hr.out]
      go_wp2_with fail
      go_ret
      exact ⟨rfl, hB3⟩
theorem mem_take {α : Type} {l : List α} {k : Nat} {x y : α} (h : y ∉ l.take k) (hx : l[k]? = some x) (hxy : ¬ x = y) : y ∉ l.take (k + 1) := by
  rw [List.take_add_one, hx]
  simp only [Option.toList_some, List.mem_append, List.mem_singleton, not_or]
  exact ⟨h, fun e => hxy e.symm⟩
set_option maxRecDepth 100000 in
set_option maxHeartbeats 1500000 in
theorem has_any (v u : Value) (ps : List (Value × List Int)) (t : List Int) (w : World) (hp : TextsAny w v ps) (ht : RowsAny w u 1 ic t) : Calls Tryz.prog 47 #[v, u] w fun e w' => e = .returned (.bool (decide (t ∈ ps.map (·.2)))) ∧ Below w.heap.size w w' := by
  obtain ⟨A, cap, hv, hca, hcm⟩ := hp.1.form
  subst hv
  have hla : ps.length ≤ 9223372036854775807 := Nat.le_trans hca hcm
  have HP := Lib.hid hp
  have HT := Lib.hid ht
  clear hp ht hca hcm
  go_enter Tryz.func47, Tryz.ntmps47
  go_wp2_with fail
  go_loopw [5] (fun i wr => ∃ k : Nat, k ≤ ps.length ∧ i = iv k ∧ Hid (t ∉ (ps.map (·.2)).take k) ∧ Below w.heap.size w wr) (fun i _ => ps.length - (intOf i).toNat)
  case atStart => exact ⟨0, by omega, rfl, Lib.hid (by simp), Below.refl _ _⟩
  case round =>
    obtain ⟨k, hk, rfl, HN, hB⟩ := hrel
    by_cases hlt : k < ps.length
    · have hlt' : (k : Int) < (ps.length : Int) := by omega
      have k0 : (0 : Int) ≤ (k : Int) := by omega
      obtain ⟨⟨xv, x⟩, hx⟩ : ∃ x, ps[k]? = some x := ⟨_, List.getElem?_eq_getElem hlt⟩
      obtain ⟨b, off, rfl, hb, q0, r0⟩ := (HP.out.kept hB).at hx
      obtain ⟨xA, xc, hxv, -, -⟩ := r0.form
      simp only at hxv q0
      subst hxv
      have Hx := Lib.hid (show (ps.map (·.2))[k]? = some x by rw [List.getElem?_map, hx]; rfl)
      have R0 := Lib.hid r0
      clear hx r0
      obtain ⟨D, hD⟩ : ∃ D, decide (x = t) = D := ⟨_, rfl⟩
      have HD := Lib.hid hD
      clear hD
      go_wp2_with fail
      refine (Same_any _ u x t _ R0.out (HT.out.kept hB)).mono ?_
      rintro e w1 ⟨rfl, hb1⟩
      rw [HD.out]
      have hB1 := up_later hB hb1
      clear hb1
      cases D with
      | true =>
        have Hr := Lib.hid (show decide (t ∈ ps.map (·.2)) = true from decide_eq_true (by rw [← of_decide_eq_true HD.out]; exact List.mem_of_getElem? Hx.out))
        go_wp2_with fail
        go_ret
        exact ⟨ret_bool Hr.out.symm, hB1⟩
      | false =>
        have HN2 := Lib.hid (mem_take HN.out Hx.out (of_decide_eq_false HD.out))
        go_wp2_with fail
        go_roundw
        case rel => exact ⟨k + 1, by omega, by go_num, HN2, hB1⟩
        case measure => simp [intOf]; omega
    · have hlt' : ¬ (k : Int) < (ps.length : Int) := by omega
      have Hr := Lib.hid (show decide (t ∈ ps.map (·.2)) = false from decide_eq_false (by
        have h := HN.out
        rwa [List.take_of_length_le (by rw [List.length_map]; omega)] at h))
      go_wp2_with fail
      go_ret
      exact ⟨ret_bool Hr.out.symm, hB⟩
/-! ### The signs of a text are its own -/
def flsL (l : List ByteArray) (x : Int) : By := (l.getD x.toNat ⟨#[]⟩).data.toList
theorem sgnI_cons (l : List ByteArray) (x : Int) : ∀ t : List Int, sgnI l (x :: t) = flsL l x ++ t.flatMap fun y => 32 :: flsL l y := by
  have h : ∀ n (t : List Int), t.length = n → sgnI l (x :: t) = flsL l x ++ t.flatMap fun y => 32 :: flsL l y := by
    intro n
    induction n with
    | zero =>
      intro t ht
      rw [List.eq_nil_of_length_eq_zero ht]
      have := sgnI_snoc l [] x
      rw [List.nil_append, sgnI_nil, List.nil_append] at this
      rw [this]
      simp [addS, flsL]
    | succ n ih =>
      intro t ht
      have hne : t ≠ [] := fun e => by subst e; simp at ht
      have e : t = t.dropLast ++ [t.getLast hne] := (List.dropLast_concat_getLast hne).symm
      rw [e, ← List.cons_append, sgnI_snoc, ih t.dropLast (by rw [List.length_dropLast, ht]; rfl), List.flatMap_append, List.append_assoc]
      congr 2
      simp [addS, flsL]
  exact fun t => h _ t rfl
theorem split_gap {a b c d : By} (ha : 32 ∉ a) (hb : 32 ∉ b) (hc : c = [] ∨ ∃ t, c = 32 :: t) (hd : d = [] ∨ ∃ t, d = 32 :: t) (h : a ++ c = b ++ d) : a = b ∧ c = d := by
  induction a generalizing b with
  | nil =>
    rcases b with _ | ⟨y, b⟩
    · exact ⟨rfl, h⟩
    · rcases hc with rfl | ⟨t, rfl⟩
      · simp at h
      · simp only [List.nil_append, List.cons_append, List.cons.injEq] at h
        exact absurd (by rw [h.1]; exact List.mem_cons_self ..) hb
  | cons x a ih =>
    rcases b with _ | ⟨y, b⟩
    · rcases hd with rfl | ⟨t, rfl⟩
      · simp at h
      · simp only [List.nil_append, List.cons_append, List.cons.injEq] at h
        exact absurd (by rw [h.1]; exact List.mem_cons_self ..) ha
    · simp only [List.cons_append, List.cons.injEq] at h
      obtain ⟨h1, h2⟩ := ih (fun q => ha (List.mem_cons_of_mem _ q)) (fun q => hb (List.mem_cons_of_mem _ q)) h.2
      exact ⟨by rw [h.1, h1], h2⟩
theorem fls_at {l : List ByteArray} {x : Int} (h : letB l.length x = true) : ∃ s, l[x.toNat]? = some s ∧ flsL l x = s.data.toList ∧ x = (x.toNat : Int) := by
  unfold letB at h
  have h2 : 0 ≤ x ∧ x < (l.length : Int) := by simpa using h
  obtain ⟨s, hs⟩ : ∃ s, l[x.toNat]? = some s := ⟨_, List.getElem?_eq_getElem (by omega)⟩
  exact ⟨s, hs, by unfold flsL; rw [List.getD_eq_getElem?_getD, hs]; rfl, by omega⟩
theorem fls_ok {l : List ByteArray} (hc : codeB l = true) {x : Int} (h : letB l.length x = true) : 32 ∉ flsL l x ∧ flsL l x ≠ [] := by
  obtain ⟨s, hs, he, _⟩ := fls_at h
  unfold codeB at hc
  simp only [Bool.and_eq_true] at hc
  have h1 := List.all_eq_true.1 hc.2.1 s (List.mem_of_getElem? hs)
  have h2 := List.all_eq_true.1 hc.2.2.1 s (List.mem_of_getElem? hs)
  rw [he]
  refine ⟨fun h32 => ?_, fun e => ?_⟩
  · unfold flashB at h2
    have := List.all_eq_true.1 h2 32 h32
    revert this
    decide
  · unfold fitB at h1
    rw [Lib.size_eq, e] at h1
    simp at h1
theorem fls_inj {l : List ByteArray} (hc : codeB l = true) {x y : Int} (hx : letB l.length x = true) (hy : letB l.length y = true) (h : flsL l x = flsL l y) : x = y := by
  obtain ⟨s, hs, he, ex⟩ := fls_at hx
  obtain ⟨t, ht, he2, ey⟩ := fls_at hy
  rw [he, he2] at h
  have est : s = t := ByteArray.ext (Array.toList_inj.1 h)
  subst est
  unfold codeB at hc
  simp only [Bool.and_eq_true, decide_eq_true_eq] at hc
  have hn := nodup_iff_at.1 hc.2.2.2
  have : x.toNat = y.toNat := by
    rcases Nat.lt_trichotomy x.toNat y.toNat with h1 | h1 | h1
    · exact absurd ht (hn _ _ _ h1 hs)
    · exact h1
    · exact absurd hs (hn _ _ _ h1 ht)
  omega
theorem tail_gap (l : List ByteArray) (t : List Int) : (t.flatMap fun y => 32 :: flsL l y) = [] ∨ ∃ r, (t.flatMap fun y => 32 :: flsL l y) = 32 :: r := by
  rcases t with _ | ⟨x, t⟩
  · exact .inl rfl
  · exact .inr ⟨_, by rw [List.flatMap_cons, List.cons_append]⟩
theorem tail_inj {l : List ByteArray} (hc : codeB l = true) : ∀ (t u : List Int), (∀ x ∈ t, letB l.length x = true) → (∀ x ∈ u, letB l.length x = true) → (t.flatMap fun y => 32 :: flsL l y) = (u.flatMap fun y => 32 :: flsL l y) → t = u
  | [], [], _, _, _ => rfl
  | [], y :: u, _, _, h => by simp at h
  | x :: t, [], _, _, h => by simp at h
  | x :: t, y :: u, ht, hu, h => by
    simp only [List.flatMap_cons, List.cons_append, List.cons.injEq, true_and] at h
    obtain ⟨h1, h2⟩ := split_gap (fls_ok hc (ht x (List.mem_cons_self ..))).1 (fls_ok hc (hu y (List.mem_cons_self ..))).1 (tail_gap l t) (tail_gap l u) h
    rw [fls_inj hc (ht x (List.mem_cons_self ..)) (hu y (List.mem_cons_self ..)) h1, tail_inj hc t u (fun z hz => ht z (List.mem_cons_of_mem _ hz)) (fun z hz => hu z (List.mem_cons_of_mem _ hz)) h2]
/-- **Each text has signs of its own.** -/
theorem sgn_inj {l : List ByteArray} (hc : codeB l = true) {t u : List Int} (ht : ∀ x ∈ t, letB l.length x = true) (hu : ∀ x ∈ u, letB l.length x = true) (h : sgnI l t = sgnI l u) : t = u := by
  rcases t with _ | ⟨x, t⟩
  · rcases u with _ | ⟨y, u⟩
    · rfl
    · rw [sgnI_nil, sgnI_cons] at h
      exact absurd (List.append_eq_nil_iff.1 h.symm).1 (fls_ok hc (hu y (List.mem_cons_self ..))).2
  · rcases u with _ | ⟨y, u⟩
    · rw [sgnI_nil, sgnI_cons] at h
      exact absurd (List.append_eq_nil_iff.1 h).1 (fls_ok hc (ht x (List.mem_cons_self ..))).2
    · rw [sgnI_cons, sgnI_cons] at h
      obtain ⟨h1, h2⟩ := split_gap (fls_ok hc (ht x (List.mem_cons_self ..))).1 (fls_ok hc (hu y (List.mem_cons_self ..))).1 (tail_gap l t) (tail_gap l u) h
      rw [fls_inj hc (ht x (List.mem_cons_self ..)) (hu y (List.mem_cons_self ..)) h1, tail_inj hc t u (fun z hz => ht z (List.mem_cons_of_mem _ hz)) (fun z hz => hu z (List.mem_cons_of_mem _ hz)) h2]
end Go.Proofs.YtonekgefegfapaaGreat

namespace Go.Proofs.YtonekgefegfapaaGreat
open Go.RowKit

/-- Errors less than none: the signs themselves. -/
theorem few_none {S R : By} : fewI S R (0, 0) ≤ 0 ↔ S = R := by
  constructor
  · intro h
    have := few_zero (S := S) (R := R) (leftN S R (0, 0)) 0 0 (Nat.le_refl _) (Nat.zero_le _) (Nat.zero_le _) (by omega)
    simpa using this
  · rintro rfl
    rw [few_same S S.length 0 (by omega)]
    exact Nat.le_refl _
theorem sgn_all {l : List ByteArray} (hc : codeB l = true) {t : List Int} (ht : ∀ x ∈ t, letB l.length x = true) : (sgnI l t).all signB = true := by
  have hf : ∀ x, letB l.length x = true → (flsL l x).all signB = true := fun x hx => by
    obtain ⟨s, hs, he, _⟩ := fls_at hx
    have h := hc
    unfold codeB at h
    simp only [Bool.and_eq_true] at h
    have h2 := List.all_eq_true.1 h.2.2.1 s (List.mem_of_getElem? hs)
    rw [he, List.all_eq_true]
    intro c hcm
    unfold flashB at h2
    rcases (flash_iff c).1 (List.all_eq_true.1 h2 c hcm) with rfl | rfl
    · exact (signB_iff _).2 (.inl rfl)
    · exact (signB_iff _).2 (.inr (.inl rfl))
  rcases t with _ | ⟨x, t⟩
  · rfl
  · rw [sgnI_cons, List.all_append, hf x (ht x (List.mem_cons_self ..)), Bool.true_and, List.all_eq_true]
    intro c hcm
    obtain ⟨y, hy, hcy⟩ := List.mem_flatMap.1 hcm
    rcases List.mem_cons.1 hcy with rfl | hcy
    · exact (signB_iff _).2 (.inr (.inr rfl))
    · exact List.all_eq_true.1 (hf y (ht y (List.mem_cons_of_mem _ hy))) c hcy
theorem sgn_len {l : List ByteArray} (h4 : ∀ s ∈ l, s.size ≤ 4) {t : List Int} (h5 : t.length ≤ 5) : (sgnI l t).length ≤ 25 := by
  have := sgnF_len h4 t t.length
  unfold sgnI
  omega
theorem signs_one {r : ByteArray} (h : r.size ≤ 40) (ha : r.data.toList.all signB = true) : signsE [r] = 0 := by
  unfold signsE
  simp only [List.all_cons, List.all_nil, Bool.and_true]
  rw [if_neg (by simp; omega), ha]
  rfl
theorem textsE_ok {l : List ByteArray} {r : ByteArray} {E K : Int} (h1 : codeE l = 0) (h2 : signsE [r] = 0) (h3 : 0 ≤ E ∧ E ≤ 3) (h4 : 0 ≤ K ∧ K ≤ 5) : textsE l r E K = 0 := by
  unfold textsE
  rw [if_neg (by rw [h1]; simp), if_neg (by rw [h2]; simp), if_neg]
  unfold rangeB
  rw [decide_eq_false (by omega), decide_eq_false (by omega), decide_eq_false (by omega), decide_eq_false (by omega)]
  simp
/-- The texts of a text's own signs. -/
theorem own_texts {l : List ByteArray} (hc : codeB l = true) {t : List Int} (h5 : t.length ≤ 5) (ht : ∀ x ∈ t, letB l.length x = true) (h40 : (sgnI l t).length ≤ 40) {ts : List (List Int)} (h : IsTexts l (sgnI l t) 0 5 ts) : ts = [t] := by
  have hi : ∀ x, x ∈ ts ↔ x = t := fun x => by
    rw [texts_iff h40 (by omega) h x, few_none]
    constructor
    · rintro ⟨_, h2, h3⟩
      exact sgn_inj hc h2 ht h3
    · rintro rfl
      exact ⟨h5, ht, rfl⟩
  have hn := texts_nodup h
  rcases ts with _ | ⟨a, _ | ⟨b, r⟩⟩
  · have := (hi t).2 rfl
    cases this
  · rw [(hi a).1 (List.mem_cons_self ..)]
  · exfalso
    have h1 := (hi a).1 (List.mem_cons_self ..)
    have h2 := (hi b).1 (List.mem_cons_of_mem _ (List.mem_cons_self ..))
    rw [h1, h2] at hn
    simp at hn
def Fact.code (l : List ByteArray) : Fact := ⟨fun v w => ∃ u, v = .agg #[u] ∧ RowsAny w u 1 sc l, fun _ _ _ ⟨u, h, h1⟩ hb => ⟨u, h, h1.kept hb⟩, false, fun _ _ h => by cases h⟩
/-- Texts that a call hands back, with its error; texts alone. -/
def Fact.txts (E : Int) (P : List (List Int) → Prop) : Fact := ⟨fun v w => ∃ (A : Option Addr) (c : Nat) (ps : List (Value × List Int)), v = .tuple #[.slice A ps.length c, iv E] ∧ TextsAny w (.slice A ps.length c) ps ∧ P (ps.map (·.2)), fun _ _ _ h hb => by
  obtain ⟨A, c, ps, h, h1, h2⟩ := h
  exact ⟨A, c, ps, h, h1.kept hb, h2⟩, false, fun _ _ h => by cases h⟩
def Fact.txs (P : List (List Int) → Prop) : Fact := ⟨fun v w => ∃ (A : Option Addr) (c : Nat) (ps : List (Value × List Int)), v = .slice A ps.length c ∧ TextsAny w (.slice A ps.length c) ps ∧ P (ps.map (·.2)), fun _ _ _ h hb => by
  obtain ⟨A, c, ps, h, h1, h2⟩ := h
  exact ⟨A, c, ps, h, h1.kept hb, h2⟩, false, fun _ _ h => by cases h⟩
set_option maxRecDepth 100000 in
set_option maxHeartbeats 3000000 in
theorem own_law (v : Value) (l : List ByteArray) (u : Value) (t : List Int) (w : World) (hl : RowsAny w v 1 sc l) (ht : RowsAny w u 1 ic t) : Calls Tryz.prog 17 #[.agg #[v], u] w fun e w' => e = .returned (.bool true) ∧ Below w.heap.size w w' := by
  obtain ⟨A, cap, hv, -, -⟩ := ht.form
  subst hv
  have HL := Lib.hid hl
  have HT := Lib.hid ht
  clear hl ht
  cases hrd : readyB l t with
  | false =>
    have HRd := Lib.hid hrd
    clear hrd
    go_enter Tryz.func17, Tryz.ntmps17
    have B1 := Box.new (w := w) (t := 24) (cs := #[v]) rfl
    have c1 := fun i => B1.cell i
    go_wp2_with fail
    refine (ready_any v _ l t _ (HL.out.kept (up_alloc up0 _)) (HT.out.kept (up_alloc up0 _))).mono ?_
    rintro e w1 ⟨rfl, hb1⟩
    rw [HRd.out]
    have hB1 := up_later (up_alloc up0 _) hb1
    have B1 := B1.kept hb1
    clear hb1 c1
    go_wp2_with fail
    refine (awake_any _).mono ?_
    rintro e w9 ⟨rfl, hb9⟩
    go_wp2_with fail
    go_ret
    exact ⟨rfl, up_later hB1 hb9⟩
  | true =>
    have HRd := Lib.hid hrd
    obtain ⟨h6, hcb, hce, h4, h5, hal⟩ := readyB_ok hrd
    have hal := List.all_eq_true.1 hal
    have hsl := sgn_len h4 h5
    obtain ⟨S, hS⟩ : ∃ S : ByteArray, ⟨(sgnI l t).toArray⟩ = S := ⟨_, rfl⟩
    have hSd : S.data.toList = sgnI l t := by rw [← hS]
    have HS := Lib.hid hS
    have HTE := Lib.hid (textsE_ok (l := l) (r := S) (E := 0) (K := 5) hce (signs_one (by rw [Lib.size_eq, hSd]; omega) (by rw [hSd]; exact sgn_all hcb hal)) (by omega) (by omega))
    have HOwn : Hid (∀ ts, IsTexts l S.data.toList 0 5 ts → ts = [t]) := Lib.hid fun ts h => by
      rw [hSd] at h
      exact own_texts hcb h5 hal (by omega) h
    have H4 := Lib.hid h4
    have HAl := Lib.hid hal
    clear hrd hcb hce h4 hal hsl hS hSd
    go_enter Tryz.func17, Tryz.ntmps17
    have B1 := Box.new (w := w) (t := 24) (cs := #[v]) rfl
    have c1 := fun i => B1.cell i
    go_wp2_with fail
    refine (ready_any v _ l t _ (HL.out.kept (up_alloc up0 _)) (HT.out.kept (up_alloc up0 _))).mono ?_
    rintro e w1 ⟨rfl, hb1⟩
    rw [HRd.out]
    have hB1 := up_later (up_alloc up0 _) hb1
    have B1 := B1.kept hb1
    clear hb1 c1
    have HB1 := Lib.hid hB1
    clear hB1
    go_wp2_with fail
    apply wp_region_by 11 [(Fact.eq _), (Fact.code l), (Fact.eq _), (Fact.eq _), (Fact.eq (.string S)), (Fact.txts 0 (fun ts => ts = [t])), (Fact.txts 0 (fun ts => ts = [t])), (Fact.txs (fun ts => ts = [t])), (Fact.eq (iv 0)), (Fact.txs (fun ts => ts = [t])), (Fact.eq (iv 0))]
    case hm => kernel_rfl
    case hB => kernel_rfl
    case hA => (intro vs; simp only [List.take_succ_cons, List.take_zero, putAll, if_true, Act.put, List.setIfInBounds_toArray, List.set_cons_zero, List.set_cons_succ]; exact rfl)
    case hstep =>
      intro vs
      refine And.intro (fun w hw hd => ?_) ?_
      · refine ite_yes rfl ?_
        have c_B1 := fun i => (B1.kept hw).cell i
        simp only [Gives]
        go_simp
        exact ⟨Below.refl _ _, rfl, fun h => by cases h⟩
      refine And.intro (fun w hw hd => ?_) ?_
      · have d0 := hd 0 (by decide) rfl
        change vs 0 = _ at d0
        refine ite_yes rfl ?_
        simp only [Gives]
        go_simp
        refine (Code_any v l w ((HL.out.kept (up_later HB1.out hw)).rows (by omega))).mono ?_
        rintro e w7 ⟨u2, rfl, hu, hb⟩
        exact ⟨_, rfl, hb, ⟨u2, rfl, hu⟩, fun h => by cases h⟩
      refine And.intro (fun w hw hd => ?_) ?_
      · refine ite_yes rfl ?_
        have c_B1 := fun i => (B1.kept hw).cell i
        simp only [Gives]
        go_simp
        exact ⟨Below.refl _ _, rfl, fun h => by cases h⟩
      refine And.intro (fun w hw hd => ?_) ?_
      · refine ite_yes rfl ?_
        simp only [Gives]
        go_simp
        exact ⟨Below.refl _ _, rfl, fun h => by cases h⟩
      refine And.intro (fun w hw hd => ?_) ?_
      · have d2 := hd 2 (by decide) rfl
        change vs 2 = _ at d2
        have d3 := hd 3 (by decide) rfl
        change vs 3 = _ at d3
        refine ite_yes rfl ?_
        simp only [Gives]
        go_simp
        refine (Signs_any v _ l t w ((HL.out.kept (up_later HB1.out hw)).rows (by omega)) ((HT.out.kept (up_later HB1.out hw)).rows (by omega)) H4.out HAl.out).mono ?_
        rintro e w7 ⟨rfl, hb⟩
        rw [HS.out]
        exact ⟨_, rfl, hb, rfl, fun h => by cases h⟩
      refine And.intro (fun w hw hd => ?_) ?_
      · have d1 := hd 1 (by decide) rfl
        obtain ⟨u2, d1, R1⟩ := d1
        have d4 := hd 4 (by decide) rfl
        change vs 4 = _ at d4
        refine ite_yes rfl ?_
        simp only [Gives]
        go_simp
        refine (Texts_any u2 l S 0 5 w R1).mono ?_
        rintro e w7 ⟨u5, ps, rfl, hp, hi, -, hb⟩
        rw [HTE.out]
        obtain ⟨A5, c5, hf, -, -⟩ := hp.1.form
        subst hf
        exact ⟨_, rfl, hb, ⟨A5, c5, ps, rfl, hp, HOwn.out _ (hi HTE.out)⟩, fun h => by cases h⟩
      refine And.intro (fun w hw hd => ?_) ?_
      · have d5 := hd 5 (by decide) rfl
        obtain ⟨A5, c5, ps5, d5, T5, P5⟩ := d5
        refine ite_yes rfl ?_
        simp only [Gives]
        go_simp
        exact ⟨Below.refl _ _, ⟨A5, c5, ps5, rfl, T5, P5⟩, fun h => by cases h⟩
      refine And.intro (fun w hw hd => ?_) ?_
      · have d6 := hd 6 (by decide) rfl
        obtain ⟨A6, c6, ps6, d6, T6, P6⟩ := d6
        refine ite_yes rfl ?_
        simp only [Gives]
        go_simp
        exact ⟨Below.refl _ _, ⟨A6, c6, ps6, rfl, T6, P6⟩, fun h => by cases h⟩
      refine And.intro (fun w hw hd => ?_) ?_
      · have d6 := hd 6 (by decide) rfl
        obtain ⟨A6, c6, ps6, d6, T6, P6⟩ := d6
        refine ite_yes rfl ?_
        simp only [Gives]
        go_simp
        exact ⟨Below.refl _ _, rfl, fun h => by cases h⟩
      refine And.intro (fun w hw hd => ?_) ?_
      · have d7 := hd 7 (by decide) rfl
        obtain ⟨A7, c7, ps7, d7, T7, P7⟩ := d7
        refine ite_yes rfl ?_
        simp only [Gives]
        go_simp
        exact ⟨Below.refl _ _, ⟨A7, c7, ps7, rfl, T7, P7⟩, fun h => by cases h⟩
      refine And.intro (fun w hw hd => ?_) ?_
      · have d8 := hd 8 (by decide) rfl
        change vs 8 = _ at d8
        refine ite_yes rfl ?_
        simp only [Gives]
        go_simp
        exact ⟨Below.refl _ _, rfl, fun h => by cases h⟩
      exact trivial
    intro vs wt hw hd hne hlo
    have d0 := hd 0 (by decide)
    change vs 0 = _ at d0
    have d1 := hd 1 (by decide)
    obtain ⟨u2, d1, R1⟩ := d1
    have d2 := hd 2 (by decide)
    change vs 2 = _ at d2
    have d3 := hd 3 (by decide)
    change vs 3 = _ at d3
    have d4 := hd 4 (by decide)
    change vs 4 = _ at d4
    have d5 := hd 5 (by decide)
    obtain ⟨A5, c5, ps5, d5, T5, P5⟩ := d5
    have d6 := hd 6 (by decide)
    obtain ⟨A6, c6, ps6, d6, T6, P6⟩ := d6
    have d7 := hd 7 (by decide)
    obtain ⟨A7, c7, ps7, d7, T7, P7⟩ := d7
    have d8 := hd 8 (by decide)
    change vs 8 = _ at d8
    have d9 := hd 9 (by decide)
    obtain ⟨A9, c9, ps9, d9, T9, P9⟩ := d9
    have d10 := hd 10 (by decide)
    change vs 10 = _ at d10
    simp only [d0, d2, d3, List.drop_succ_cons, List.drop_nil]
    have B1 := B1.kept hw
    have c_B1 := fun i => B1.cell i
    have f_B1 := fun i => B1.free i
    clear hd hne hlo d0 d2 d3
    simp only [d9, d10]
    have HB2 := Lib.hid (up_later HB1.out hw)
    have HT9 := Lib.hid T9
    have HP9 := Lib.hid P9
    clear d1 R1 d4 d5 T5 P5 d6 T6 P6 d7 T7 P7 d8 d9 T9 P9 d10 B1 c_B1 f_B1 hw
    go_wp2_with fail
    have hbw := up_alloc (up0 (w := wt)) (.cells #[.slice A t.length cap] 25)
    refine (same_any _ _ ps9 [(.slice A t.length cap, t)] _ (HT9.out.kept hbw) ⟨rows_any (lit_rows (l := [((.slice A t.length cap : Value), t)]) (cells := pc) (Box.new rfl) (fun _ => rfl) (by simp)), fun p hp => ?_⟩).mono ?_
    · rw [List.mem_singleton.1 hp]
      exact HT.out.kept (up_later HB2.out hbw)
    rintro e w2 ⟨rfl, hb2⟩
    rw [HP9.out, show decide (([t] : List (List Int)) = [((.slice A t.length cap : Value), t)].map (·.2)) = true from decide_eq_true rfl]
    have hB3 := up_later HB2.out (up_later hbw hb2)
    clear hb2 hbw
    go_wp2_with fail
    refine (awake_any _).mono ?_
    rintro e w9 ⟨rfl, hb9⟩
    go_wp2_with fail
    go_ret
    exact ⟨rfl, up_later hB3 hb9⟩
end Go.Proofs.YtonekgefegfapaaGreat

