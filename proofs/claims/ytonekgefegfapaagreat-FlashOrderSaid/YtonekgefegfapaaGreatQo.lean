/-
  FlashOrder holds: the lift.
-/
import Derived.Test.YtonekgefegfapaaGreatGw
import Derived.Test.YtonekgefegfapaaGreatGr
namespace Go.Proofs.YtonekgefegfapaaGreat
open Go.RowKit

theorem nodup_iff_at {α : Type} {l : List α} : l.Nodup ↔ ∀ (i j : Nat) (x : α), i < j → l[i]? = some x → ¬ l[j]? = some x := by
  unfold List.Nodup
  rw [List.pairwise_iff_getElem]
  constructor
  · intro h i j x hij hi hj
    obtain ⟨h1, e1⟩ := List.getElem?_eq_some_iff.1 hi
    obtain ⟨h2, e2⟩ := List.getElem?_eq_some_iff.1 hj
    exact h i j h1 h2 hij (e1.trans e2.symm)
  · intro h i j h1 h2 hij e
    exact h i j l[i] hij (List.getElem?_eq_getElem h1) (by rw [List.getElem?_eq_getElem h2, e])
/-- What has been seen of the first letters of a code. -/
def Seen (l : List ByteArray) (k : Nat) : Prop := (∀ j s, j < k → l[j]? = some s → fitB s = true ∧ flashB s = true) ∧ ∀ i j s, i < j → j < k → l[i]? = some s → ¬ l[j]? = some s
theorem seen_none (l : List ByteArray) : Seen l 0 := ⟨fun _ _ h => absurd h (Nat.not_lt_zero _), fun _ _ _ _ h => absurd h (Nat.not_lt_zero _)⟩
theorem seen_step {l : List ByteArray} {k : Nat} {s : ByteArray} (h : Seen l k) (hs : l[k]? = some s) (h1 : fitB s = true) (h2 : flashB s = true) (h3 : ∀ j, j < k → ¬ l[j]? = some s) : Seen l (k + 1) := by
  refine ⟨fun j t hj ht => ?_, fun i j t hij hj hi ht => ?_⟩
  · rcases Nat.lt_or_ge j k with hk | hk
    · exact h.1 j t hk ht
    · obtain rfl : j = k := by omega
      rw [hs] at ht
      obtain rfl := Option.some.inj ht
      exact ⟨h1, h2⟩
  · rcases Nat.lt_or_ge j k with hk | hk
    · exact h.2 i j t hij hk hi ht
    · obtain rfl : j = k := by omega
      rw [hs] at ht
      obtain rfl := Option.some.inj ht
      exact h3 i hij hi
theorem seen_all {l : List ByteArray} (h : Seen l l.length) (h0 : 0 < l.length) : codeB l = true := by
  have hn : l.Nodup := nodup_iff_at.2 fun i j s hij hi hj => h.2 i j s hij (List.getElem?_eq_some_iff.1 hj).1 hi hj
  have hf : ∀ s ∈ l, fitB s = true ∧ flashB s = true := fun s hs => by
    obtain ⟨j, hj⟩ := List.mem_iff_getElem?.1 hs
    exact h.1 j s (List.getElem?_eq_some_iff.1 hj).1 hj
  unfold codeB
  rw [decide_eq_true h0, decide_eq_true hn, List.all_eq_true.2 fun s hs => (hf s hs).1, List.all_eq_true.2 fun s hs => (hf s hs).2]
  rfl
theorem code_fit {l : List ByteArray} {k : Nat} {s : ByteArray} (hs : l[k]? = some s) (h : fitB s = false) : codeB l = false := by
  have : l.all fitB = false := by
    rw [List.all_eq_false]
    exact ⟨s, List.mem_of_getElem? hs, by rw [h]; simp⟩
  unfold codeB
  rw [this]
  simp
theorem code_flash {l : List ByteArray} {k : Nat} {s : ByteArray} (hs : l[k]? = some s) (h : flashB s = false) : codeB l = false := by
  have : l.all flashB = false := by
    rw [List.all_eq_false]
    exact ⟨s, List.mem_of_getElem? hs, by rw [h]; simp⟩
  unfold codeB
  rw [this]
  simp
theorem code_twice {l : List ByteArray} {j k : Nat} {s : ByteArray} (hs : l[k]? = some s) (hj : l[j]? = some s) (h : j < k) : codeB l = false := by
  have : ¬ l.Nodup := fun hn => nodup_iff_at.1 hn j k s h hj hs
  unfold codeB
  rw [decide_eq_false this]
  simp
theorem flash_iff (c : UInt8) : hasB [46, 45] c = true ↔ c = 46 ∨ c = 45 := by
  unfold hasB
  simp only [Lib.indexByte]
  by_cases h1 : c = 46
  · subst h1
    simp
  by_cases h2 : c = 45
  · subst h2
    simp
  have e1 : ((46 : UInt8) == c) = false := by simpa using fun h => h1 (Eq.symm h)
  have e2 : ((45 : UInt8) == c) = false := by simpa using fun h => h2 (Eq.symm h)
  simp [e1, e2, h1, h2]
/-- A list of at most 9 letters of at most 9 bytes. -/
def thinB (l : List ByteArray) : Bool := decide (l.length ≤ 9) && l.all fun s => decide (s.size ≤ 9)
theorem thin_wide {l : List ByteArray} {k : Nat} {s : ByteArray} (hs : l[k]? = some s) (h : 9 < s.size) : thinB l = false := by
  have : (l.all fun s => decide (s.size ≤ 9)) = false := by
    rw [List.all_eq_false]
    exact ⟨s, List.mem_of_getElem? hs, by simp; omega⟩
  unfold thinB
  rw [this, Bool.and_false]
theorem thin_yes {l : List ByteArray} (h9 : l.length ≤ 9) (h : ∀ j s, j < l.length → l[j]? = some s → s.size ≤ 9) : thinB l = true := by
  unfold thinB
  rw [decide_eq_true h9, Bool.true_and, List.all_eq_true]
  intro s hs
  obtain ⟨j, hj⟩ := List.mem_iff_getElem?.1 hs
  exact decide_eq_true (h j s (List.getElem?_eq_some_iff.1 hj).1 hj)
theorem thin_long {l : List ByteArray} (h9 : 9 < l.length) : thinB l = false := by
  unfold thinB
  rw [decide_eq_false (by omega), Bool.false_and]
end Go.Proofs.YtonekgefegfapaaGreat

namespace Go.Proofs.YtonekgefegfapaaGreat
open Go.RowKit

set_option maxRecDepth 100000 in
set_option maxHeartbeats 1500000 in
theorem Thin_any (v : Value) (l : List ByteArray) (s : ByteArray) (w : World) (hl : RowsAny w v 1 sc l) : Calls Tryz.prog 18 #[.agg #[v], .string s] w fun e w' => e = .returned (.bool (thinB l && decide (s.size ≤ 60))) ∧ Below w.heap.size w w' := by
  obtain ⟨A, cap, hv, hca, hcm⟩ := hl.form
  subst hv
  have hla : l.length ≤ 9223372036854775807 := Nat.le_trans hca hcm
  have HL := Lib.hid hl
  clear hl hca hcm
  go_enter Tryz.func18, Tryz.ntmps18
  have B1 := Box.new (w := w) (t := 24) (cs := #[.slice A l.length cap]) rfl
  go_wp2_with fail
  go_loopw [5] (fun i wr => ∃ k : Nat, k ≤ l.length ∧ k ≤ 10 ∧ i = iv k ∧ Hid (∀ j s, j < k → l[j]? = some s → s.size ≤ 9) ∧ Hid (Box wr w.heap.size 24 #[.slice A l.length cap]) ∧ Below w.heap.size w wr) (fun i _ => l.length - (intOf i).toNat)
  case atStart => exact ⟨0, by omega, by omega, rfl, Lib.hid (fun j _ h => absurd h (Nat.not_lt_zero _)), Lib.hid B1, up_alloc up0 _⟩
  case round =>
    obtain ⟨k, hk, hk10, rfl, HT, HB1, hB⟩ := hrel
    have c1 := fun i => HB1.out.cell i
    by_cases hlt : k < l.length
    · have hlt' : (k : Int) < (l.length : Int) := by omega
      by_cases h10 : k < 10
      · have h10' : (k : Int) < 10 := by omega
        have k0 : (0 : Int) ≤ (k : Int) := by omega
        obtain ⟨x, hx⟩ : ∃ x, l[k]? = some x := ⟨_, List.getElem?_eq_getElem hlt⟩
        obtain ⟨b, off, rfl, hb, hc⟩ := (HL.out.kept hB).at rfl hx
        have q0 : wr.cell? ⟨b, off + k, none⟩ = some (.string x) := by simpa using hc 0 _ rfl
        have Hx := Lib.hid hx
        clear hc hx
        by_cases h9 : 9 < x.size
        · have h9' : (9 : Int) < (x.size : Int) := by omega
          have Hr := Lib.hid (show (thinB l && decide (s.size ≤ 60)) = false by rw [thin_wide Hx.out h9]; rfl)
          go_wp2_with fail
          go_ret
          exact ⟨ret_bool Hr.out.symm, hB⟩
        · have h9' : ¬ (9 : Int) < (x.size : Int) := by omega
          have HN : Hid (∀ j s, j < k + 1 → l[j]? = some s → s.size ≤ 9) := Lib.hid fun j y hj hy => by
            rcases Nat.lt_or_ge j k with h | h
            · exact HT.out j y h hy
            · obtain rfl : j = k := by omega
              rw [Hx.out] at hy
              obtain rfl := Option.some.inj hy
              omega
          go_wp2_with fail
          go_roundw
          case rel => exact ⟨k + 1, by omega, by omega, by go_num, HN, HB1, hB⟩
          case measure => simp [intOf]; omega
      · have h10' : ¬ (k : Int) < 10 := by omega
        have hle : ¬ (l.length : Int) ≤ 9 := by omega
        have Hr := Lib.hid (show (thinB l && decide (s.size ≤ 60)) = false by rw [thin_long (by omega)]; rfl)
        go_wp2_with fail
        go_ret
        exact ⟨ret_bool Hr.out.symm, hB⟩
    · have hlt' : ¬ (k : Int) < (l.length : Int) := by omega
      obtain rfl : k = l.length := by omega
      by_cases h9 : l.length ≤ 9
      · have hle : (l.length : Int) ≤ 9 := by omega
        have Hr := Lib.hid (show (thinB l && decide (s.size ≤ 60)) = decide ((s.size : Int) ≤ 60) by
          rw [thin_yes h9 HT.out, Bool.true_and, decide_eq_decide]
          omega)
        go_wp2_with fail
        go_ret
        exact ⟨ret_bool Hr.out.symm, hB⟩
      · have hle : ¬ (l.length : Int) ≤ 9 := by omega
        have Hr := Lib.hid (show (thinB l && decide (s.size ≤ 60)) = false by rw [thin_long (by omega)]; rfl)
        go_wp2_with fail
        go_ret
        exact ⟨ret_bool Hr.out.symm, hB⟩
theorem str_info : (Tryz.prog.info? 9).map (fun i => (i.zero, i.size, i.bytes)) = some (some (.string ⟨#[]⟩), 1, 16) := by kernel_rfl
theorem flat_sc (l : List ByteArray) : l.flatMap sc = l.map fun x => .string x := by
  induction l with
  | nil => rfl
  | cons x l ih => rw [List.flatMap_cons, ih]; rfl
set_option maxRecDepth 100000 in
set_option maxHeartbeats 1500000 in
theorem Code_any (v : Value) (l : List ByteArray) (w : World) (hl : RowsAt w v 1 sc l) : Calls Tryz.prog 21 #[.agg #[v]] w fun e w' => ∃ u, e = .returned (.agg #[u]) ∧ RowsAny w' u 1 sc l ∧ Below w.heap.size w w' := by
  obtain ⟨hlen, A, cap, hv, hcap, hmax⟩ := hl.form
  subst hv
  obtain ⟨i0, hi0, hz0, hz1, hz2⟩ := info_parts str_info
  have und22 := Tryz.underlying22
  cases A with
  | none =>
    have hl0 : l = [] := by
      rcases hl with ⟨_, A', cap', h1, _, _, h4⟩
      injection h1 with h1
      subst h1
      rcases l with _ | ⟨x, l⟩
      · rfl
      · obtain ⟨b, off, e, _⟩ := h4 (by simp)
        cases e
    subst hl0
    clear hl
    go_enter Tryz.func21, Tryz.ntmps21
    have B1 := Box.new (w := w) (t := 24) (cs := #[.slice none ([] : List ByteArray).length cap]) rfl
    have c1 := fun i => B1.cell i
    go_wp2_with fail
    refine bodyPost_ret (v := .agg #[.slice (some ⟨w.heap.size + 1 + 1, 0, none⟩) 0 0]) (results_cell rfl rfl ((Box.new (by simp)).alloc _) (d := .struct (Tryz.prog.fieldsOf 30)) (by kernel_rfl) rfl (by kernel_rfl)) rfl ⟨_, rfl, ⟨_, 0, rfl, Nat.zero_le _, Nat.zero_le _, fun h => absurd rfl h⟩, up_alloc (up_alloc (up_alloc up0 _) _) _⟩
  | some ad =>
    have HL := Lib.hid hl
    clear hl
    go_enter Tryz.func21, Tryz.ntmps21
    have B1 := Box.new (w := w) (t := 24) (cs := #[.slice (some ad) l.length cap]) rfl
    have c1 := fun i => B1.cell i
    have b1 := HL.out
    have hmk : (((w.alloc (.cells #[.slice (some ad) l.length cap] 24)).alloc (.cells #[.slice none 0 0] 30)).alloc (.cells #[] 9)).ownsRow w.heap.size 9 1 (.slice (some ⟨w.heap.size + 1 + 1, 0, none⟩) 0 0) 0 [] := by
      have h := World.ownsRow_made (base := w.heap.size) (e := 9) (size := 1) ((w.alloc (.cells #[.slice (some ad) l.length cap] 24)).alloc (.cells #[.slice none 0 0] 30)) #[] 0 (by simp; omega) (Nat.zero_le _) rfl
      simpa using h
    go_wp2_with (at_builtin; refine wpList_append_own _ rfl _ _ 22 rfl w.heap.size 9 i0 (.string ⟨#[]⟩) 1 16 und22 hi0 hz0 hz1 hz2 rfl (by decide) _ 0 [] rfl hmk ad l.length cap (l.map fun x => .string x) rfl (by simp) ?qc2 ?qc3 (by unfold maxLen; omega) (by omega) (by simp; omega) ?_)
    case qc2 =>
      intro j u hj
      rw [List.getElem?_map, Option.map_eq_some_iff] at hj
      obtain ⟨x, hx, rfl⟩ := hj
      obtain ⟨b, off, e, hb, hc⟩ := HL.out.at rfl hx
      injection e with e
      subst e
      have := hc 0 _ rfl
      rw [addr_add]
      exact Lib.cell?_alloc_some _ (Lib.cell?_alloc_some _ (Lib.cell?_alloc_some _ (by simpa using this)))
    case qc3 =>
      intro u hu
      obtain ⟨x, _, rfl⟩ := List.mem_map.1 hu
      rfl
    intro v' w1 hown hgrow hnil
    have B2 := (show Box (((w.alloc (.cells #[.slice (some ad) l.length cap] 24)).alloc (.cells #[.slice none 0 0] 30)).alloc (.cells #[] 9)) (w.heap.size + 1) 30 #[.slice none 0 0] from (Box.new (by simp)).alloc _).grown hgrow (by simp [Value.ownBlock])
    have c2 := fun i => B2.cell i
    have f2 := fun i => B2.free i
    have hbw : Below w.heap.size w w1 := (up_alloc (up_alloc (up_alloc up0 _) _) _).grown hgrow (by simp; omega) (by intro k hk; simp [Value.ownBlock] at hk; omega)
    obtain ⟨A', m', p', hform⟩ := own_form hown
    subst hform
    have HO := Lib.hid (hown.kept (grownBy_set w1 (w.heap.size + 1) 0 (.slice A' m' p')) (.inr (Ne.symm (box_not_own B2 (by decide) hown))))
    clear hown hgrow hnil
    go_wp2_with fail
    exact bodyPost_ret (v := .agg #[.slice A' m' p']) (results_cell rfl rfl (Box.put1 B2) (d := .struct (Tryz.prog.fieldsOf 30)) (by kernel_rfl) rfl (by kernel_rfl)) rfl ⟨_, rfl, rows_any (rows_of_own (cells := sc) (by rw [flat_sc]; simpa using HO.out) rfl (fun _ => rfl) hlen), up_put hbw (by simp) _⟩
set_option maxRecDepth 100000 in
set_option maxHeartbeats 3000000 in
theorem IsText_any (v u : Value) (l : List ByteArray) (t : List Int) (w : World) (hl : RowsAt w v 1 sc l) (ht : RowsAny w u 1 ic t) : Calls Tryz.prog 25 #[.agg #[v], u] w fun e w' => e = .returned (.bool (t.all (letB l.length))) ∧ Below w.heap.size w w' := by
  obtain ⟨hla, A, cap, hv, hca, hcm⟩ := hl.form
  subst hv
  obtain ⟨A2, cap2, hv2, hca2, hcm2⟩ := ht.form
  subst hv2
  have hta : t.length ≤ 9223372036854775807 := Nat.le_trans hca2 hcm2
  have HT := Lib.hid ht
  obtain ⟨n, hn⟩ : ∃ n, l.length = n := ⟨_, rfl⟩
  rw [hn] at hla
  rw [hn]
  clear hl ht hca hcm hca2 hcm2 hn
  go_enter Tryz.func25, Tryz.ntmps25
  have B1 := Box.new (w := w) (t := 24) (cs := #[.slice A n cap]) rfl
  go_wp2_with fail
  go_loopw [5] (fun i wr => ∃ k : Nat, k ≤ t.length ∧ i = iv k ∧ Hid ((t.take k).all (letB n) = true) ∧ Hid (Box wr w.heap.size 24 #[.slice A n cap]) ∧ Below w.heap.size w wr) (fun i _ => t.length - (intOf i).toNat)
  case atStart => exact ⟨0, by omega, rfl, Lib.hid rfl, Lib.hid B1, up_alloc up0 _⟩
  case round =>
    obtain ⟨k, hk, rfl, HA, HB1, hB⟩ := hrel
    by_cases hlt : k < t.length
    · obtain ⟨x, hx⟩ : ∃ x, t[k]? = some x := ⟨_, List.getElem?_eq_getElem hlt⟩
      obtain ⟨b, off, rfl, hb, hc⟩ := (HT.out.kept hB).at rfl hx
      have q0 : wr.cell? ⟨b, off + k, none⟩ = some (iv x) := by simpa using hc 0 _ rfl
      have Hx := Lib.hid hx
      have k0 : (0 : Int) ≤ (k : Int) := by omega
      have kl : (k : Int) < (t.length : Int) := by omega
      have hW : IntKind.i64.wrap ((n : Int) - 1) = (n : Int) - 1 := wrapK_in _ 3000 (by omega) (by omega)
      have HB := Lib.hid hB
      have b1 := HB1.out
      have lB1 := b1.lt
      clear hx hc hB B1
      cases hxn : letB n x with
      | true =>
        have HI := Lib.hid (show (decide (0 ≤ x) && decide (x ≤ (n : Int) - 1)) = true by rw [← hxn]; unfold letB; congr 1; rw [decide_eq_decide]; omega)
        have HN := Lib.hid (show (t.take (k + 1)).all (letB n) = true by rw [all_take Hx.out, HA.out, hxn]; rfl)
        clear hxn HA HT Hx
        go_wp2_with fail
        apply wp_region_by 10 [(Fact.eq _), (Fact.eq _), (Fact.eq _), (Fact.eq _), (Fact.eq _), (Fact.eq _), (Fact.eq _), (Fact.eq _), (Fact.eq _), (Fact.eq _)]
        case hm => kernel_rfl
        case hB => kernel_rfl
        case hA => (intro vs; simp only [List.take_succ_cons, List.take_zero, putAll, if_true, Act.put, List.setIfInBounds_toArray, List.set_cons_zero, List.set_cons_succ]; exact rfl)
        case hstep =>
          intro vs
          refine And.intro (fun w hw hd => ?_) ?_
          · refine ite_yes rfl ?_
            simp only [Gives]
            go_simp
            exact ⟨Below.refl _ _, rfl, fun h => by cases h⟩
          refine And.intro (fun w hw hd => ?_) ?_
          · refine ite_yes rfl ?_
            simp only [Gives]
            go_simp
            exact ⟨Below.refl _ _, rfl, fun h => by cases h⟩
          refine And.intro (fun w hw hd => ?_) ?_
          · have d0 := hd 0 (by decide) rfl
            change vs 0 = _ at d0
            have d1 := hd 1 (by decide) rfl
            change vs 1 = _ at d1
            refine ite_yes rfl ?_
            simp only [Gives]
            go_simp
            exact ⟨Below.refl _ _, rfl, fun h => by cases h⟩
          refine And.intro (fun w hw hd => ?_) ?_
          · have d2 := hd 2 (by decide) rfl
            change vs 2 = _ at d2
            refine ite_yes rfl ?_
            have c_b1 := fun i => (b1.kept hw).cell i
            have p0 := (hw.cell (p := ⟨b, off + k, none⟩) hb).trans q0
            simp only [Gives]
            go_simp
            exact ⟨Below.refl _ _, rfl, fun h => by cases h⟩
          refine And.intro (fun w hw hd => ?_) ?_
          · refine ite_yes rfl ?_
            simp only [Gives]
            go_simp
            exact ⟨Below.refl _ _, rfl, fun h => by cases h⟩
          refine And.intro (fun w hw hd => ?_) ?_
          · have d4 := hd 4 (by decide) rfl
            change vs 4 = _ at d4
            refine ite_yes rfl ?_
            have c_b1 := fun i => (b1.kept hw).cell i
            simp only [Gives]
            go_simp
            exact ⟨Below.refl _ _, rfl, fun h => by cases h⟩
          refine And.intro (fun w hw hd => ?_) ?_
          · have d5 := hd 5 (by decide) rfl
            change vs 5 = _ at d5
            refine ite_yes rfl ?_
            simp only [Gives]
            go_simp
            exact ⟨Below.refl _ _, rfl, fun h => by cases h⟩
          refine And.intro (fun w hw hd => ?_) ?_
          · have d6 := hd 6 (by decide) rfl
            change vs 6 = _ at d6
            refine ite_yes rfl ?_
            simp only [Gives]
            go_simp
            exact ⟨Below.refl _ _, rfl, fun h => by cases h⟩
          refine And.intro (fun w hw hd => ?_) ?_
          · have d3 := hd 3 (by decide) rfl
            change vs 3 = _ at d3
            have d7 := hd 7 (by decide) rfl
            change vs 7 = _ at d7
            refine ite_yes rfl ?_
            simp only [Gives]
            go_simp
            refine (In_b x 0 ((n : Int) - 1) true w HI.out).mono ?_
            rintro e w1 ⟨rfl, hb⟩
            exact ⟨_, rfl, hb, rfl, fun h => by cases h⟩
          refine And.intro (fun w hw hd => ?_) ?_
          · have d8 := hd 8 (by decide) rfl
            change vs 8 = _ at d8
            refine ite_yes rfl ?_
            simp only [Gives]
            go_simp
            exact ⟨Below.refl _ _, rfl, fun h => by cases h⟩
          exact trivial
        intro vs wt hw hd hne hlo
        have d0 := hd 0 (by decide)
        change vs 0 = _ at d0
        have d1 := hd 1 (by decide)
        change vs 1 = _ at d1
        have d2 := hd 2 (by decide)
        change vs 2 = _ at d2
        have d3 := hd 3 (by decide)
        change vs 3 = _ at d3
        have d4 := hd 4 (by decide)
        change vs 4 = _ at d4
        have d5 := hd 5 (by decide)
        change vs 5 = _ at d5
        have d6 := hd 6 (by decide)
        change vs 6 = _ at d6
        have d7 := hd 7 (by decide)
        change vs 7 = _ at d7
        have d8 := hd 8 (by decide)
        change vs 8 = _ at d8
        have d9 := hd 9 (by decide)
        change vs 9 = _ at d9
        simp only [d0, d1, d2, d3, d4, d5, d6, d7, d8, d9, List.drop_succ_cons, List.drop_nil]
        have b1 := b1.kept hw
        have c_b1 := fun i => b1.cell i
        have f_b1 := fun i => b1.free i
        clear hd hne hlo d0 d1 d2 d3 d4 d5 d6 d7 d8 d9
        have hB := up_later HB.out hw
        go_wp2_with fail
        go_roundw
        case rel => exact ⟨k + 1, by omega, by go_num, HN, Lib.hid b1, hB⟩
        case measure => simp [intOf]; omega
      | false =>
        have HI := Lib.hid (show (decide (0 ≤ x) && decide (x ≤ (n : Int) - 1)) = false by rw [← hxn]; unfold letB; congr 1; rw [decide_eq_decide]; omega)
        have Hr := Lib.hid (show t.all (letB n) = false by rw [List.all_eq_false]; exact ⟨x, List.mem_of_getElem? Hx.out, by rw [hxn]; simp⟩)
        clear hxn HA HT Hx
        go_wp2_with fail
        apply wp_region_by 10 [(Fact.eq _), (Fact.eq _), (Fact.eq _), (Fact.eq _), (Fact.eq _), (Fact.eq _), (Fact.eq _), (Fact.eq _), (Fact.eq _), (Fact.eq _)]
        case hm => kernel_rfl
        case hB => kernel_rfl
        case hA => (intro vs; simp only [List.take_succ_cons, List.take_zero, putAll, if_true, Act.put, List.setIfInBounds_toArray, List.set_cons_zero, List.set_cons_succ]; exact rfl)
        case hstep =>
          intro vs
          refine And.intro (fun w hw hd => ?_) ?_
          · refine ite_yes rfl ?_
            simp only [Gives]
            go_simp
            exact ⟨Below.refl _ _, rfl, fun h => by cases h⟩
          refine And.intro (fun w hw hd => ?_) ?_
          · refine ite_yes rfl ?_
            simp only [Gives]
            go_simp
            exact ⟨Below.refl _ _, rfl, fun h => by cases h⟩
          refine And.intro (fun w hw hd => ?_) ?_
          · have d0 := hd 0 (by decide) rfl
            change vs 0 = _ at d0
            have d1 := hd 1 (by decide) rfl
            change vs 1 = _ at d1
            refine ite_yes rfl ?_
            simp only [Gives]
            go_simp
            exact ⟨Below.refl _ _, rfl, fun h => by cases h⟩
          refine And.intro (fun w hw hd => ?_) ?_
          · have d2 := hd 2 (by decide) rfl
            change vs 2 = _ at d2
            refine ite_yes rfl ?_
            have c_b1 := fun i => (b1.kept hw).cell i
            have p0 := (hw.cell (p := ⟨b, off + k, none⟩) hb).trans q0
            simp only [Gives]
            go_simp
            exact ⟨Below.refl _ _, rfl, fun h => by cases h⟩
          refine And.intro (fun w hw hd => ?_) ?_
          · refine ite_yes rfl ?_
            simp only [Gives]
            go_simp
            exact ⟨Below.refl _ _, rfl, fun h => by cases h⟩
          refine And.intro (fun w hw hd => ?_) ?_
          · have d4 := hd 4 (by decide) rfl
            change vs 4 = _ at d4
            refine ite_yes rfl ?_
            have c_b1 := fun i => (b1.kept hw).cell i
            simp only [Gives]
            go_simp
            exact ⟨Below.refl _ _, rfl, fun h => by cases h⟩
          refine And.intro (fun w hw hd => ?_) ?_
          · have d5 := hd 5 (by decide) rfl
            change vs 5 = _ at d5
            refine ite_yes rfl ?_
            simp only [Gives]
            go_simp
            exact ⟨Below.refl _ _, rfl, fun h => by cases h⟩
          refine And.intro (fun w hw hd => ?_) ?_
          · have d6 := hd 6 (by decide) rfl
            change vs 6 = _ at d6
            refine ite_yes rfl ?_
            simp only [Gives]
            go_simp
            exact ⟨Below.refl _ _, rfl, fun h => by cases h⟩
          refine And.intro (fun w hw hd => ?_) ?_
          · have d3 := hd 3 (by decide) rfl
            change vs 3 = _ at d3
            have d7 := hd 7 (by decide) rfl
            change vs 7 = _ at d7
            refine ite_yes rfl ?_
            simp only [Gives]
            go_simp
            refine (In_b x 0 ((n : Int) - 1) false w HI.out).mono ?_
            rintro e w1 ⟨rfl, hb⟩
            exact ⟨_, rfl, hb, rfl, fun h => by cases h⟩
          refine And.intro (fun w hw hd => ?_) ?_
          · have d8 := hd 8 (by decide) rfl
            change vs 8 = _ at d8
            refine ite_yes rfl ?_
            simp only [Gives]
            go_simp
            exact ⟨Below.refl _ _, rfl, fun h => by cases h⟩
          exact trivial
        intro vs wt hw hd hne hlo
        have d0 := hd 0 (by decide)
        change vs 0 = _ at d0
        have d1 := hd 1 (by decide)
        change vs 1 = _ at d1
        have d2 := hd 2 (by decide)
        change vs 2 = _ at d2
        have d3 := hd 3 (by decide)
        change vs 3 = _ at d3
        have d4 := hd 4 (by decide)
        change vs 4 = _ at d4
        have d5 := hd 5 (by decide)
        change vs 5 = _ at d5
        have d6 := hd 6 (by decide)
        change vs 6 = _ at d6
        have d7 := hd 7 (by decide)
        change vs 7 = _ at d7
        have d8 := hd 8 (by decide)
        change vs 8 = _ at d8
        have d9 := hd 9 (by decide)
        change vs 9 = _ at d9
        simp only [d0, d1, d2, d3, d4, d5, d6, d7, d8, d9, List.drop_succ_cons, List.drop_nil]
        have b1 := b1.kept hw
        have c_b1 := fun i => b1.cell i
        have f_b1 := fun i => b1.free i
        clear hd hne hlo d0 d1 d2 d3 d4 d5 d6 d7 d8 d9
        have hB := up_later HB.out hw
        go_wp2_with fail
        go_ret
        exact ⟨ret_bool Hr.out.symm, hB⟩
    · have Hr := Lib.hid (show t.all (letB n) = true by have h := HA.out; rwa [List.take_of_length_le (by omega)] at h)
      go_wp2_with fail
      go_ret
      exact ⟨ret_bool Hr.out.symm, hB⟩
set_option maxRecDepth 100000 in
set_option maxHeartbeats 3000000 in
theorem Signs_any (v u : Value) (l : List ByteArray) (t : List Int) (w : World) (hl : RowsAt w v 1 sc l) (ht : RowsAt w u 1 ic t) (h4 : ∀ s ∈ l, s.size ≤ 4) (hx : ∀ x ∈ t, letB l.length x = true) :
    Calls Tryz.prog 26 #[.agg #[v], u] w fun e w' => e = .returned (.string ⟨(sgnI l t).toArray⟩) ∧ Below w.heap.size w w' := by
  obtain ⟨hlen, A, cap, hv, -, -⟩ := hl.form
  subst hv
  obtain ⟨htlen, A2, cap2, hv2, -, -⟩ := ht.form
  subst hv2
  have HL := Lib.hid hl
  have HT := Lib.hid ht
  have H4 := Lib.hid h4
  have HX := Lib.hid hx
  clear hl ht h4 hx
  go_enter Tryz.func26, Tryz.ntmps26
  have B1 := Box.new (w := w) (t := 24) (cs := #[.slice A l.length cap]) rfl
  go_wp2_with fail
  go_loopw [5, 6] (fun o i wr => ∃ k : Nat, k ≤ t.length ∧ i = iv k ∧ o = .string ⟨(sgnF l t k).toArray⟩ ∧ Hid (Box wr w.heap.size 24 #[.slice A l.length cap]) ∧ Below w.heap.size w wr) (fun _ i _ => t.length - (intOf i).toNat)
  case atStart => exact ⟨0, by omega, rfl, rfl, Lib.hid B1, up_alloc up0 _⟩
  case round =>
    obtain ⟨k, hk, rfl, rfl, HB1, hB⟩ := hrel
    by_cases hlt : k < t.length
    · obtain ⟨x, hx⟩ : ∃ x, t[k]? = some x := ⟨_, List.getElem?_eq_getElem hlt⟩
      obtain ⟨b, off, rfl, hb, hc⟩ := (HT.out.kept hB).at rfl hx
      have hxl := HX.out x (List.mem_of_getElem? hx)
      unfold letB at hxl
      have hx0 : 0 ≤ x ∧ x < (l.length : Int) := by simpa using hxl
      obtain ⟨n, rfl⟩ : ∃ n : Nat, x = n := ⟨x.toNat, by omega⟩
      have hn : n < l.length := by omega
      have q0 : wr.cell? ⟨b, off + k, none⟩ = some (.int .i64 n) := by simpa using hc 0 _ rfl
      obtain ⟨y, hy⟩ : ∃ y, l[n]? = some y := ⟨_, List.getElem?_eq_getElem hn⟩
      obtain ⟨b2, off2, rfl, hb2, hc2⟩ := (HL.out.kept hB).at rfl hy
      have q1 : wr.cell? ⟨b2, off2 + n, none⟩ = some (.string y) := by simpa using hc2 0 _ rfl
      have hy4 := H4.out y (List.mem_of_getElem? hy)
      have hgl := sgnF_len H4.out t k
      obtain ⟨G, hG⟩ : ∃ G : ByteArray, ⟨(sgnF l t k).toArray⟩ = G := ⟨_, rfl⟩
      have hGs : G.size ≤ 5000 := by
        rw [← hG]
        show (sgnF l t k).toArray.size ≤ 5000
        simp
        omega
      have Hs := Lib.hid (show (⟨(sgnF l t (k + 1)).toArray⟩ : ByteArray) = if k = 0 then G ++ y else (G ++ ⟨#[32]⟩) ++ y by
        rw [sgnF_succ, List.getD_eq_getElem?_getD, hx, ← hG]
        apply ByteArray.ext
        by_cases h0 : k = 0
        · subst h0
          rw [if_pos rfl]
          simp [addS, List.getD_eq_getElem?_getD, hy]
        · rw [if_neg h0]
          simp [addS, List.getD_eq_getElem?_getD, hy, h0])
      have k0 : (0 : Int) ≤ (k : Int) := by omega
      have kl : (k : Int) < (t.length : Int) := by omega
      have n0 : (0 : Int) ≤ (n : Int) := by omega
      have nl : (n : Int) < (l.length : Int) := by omega
      have b1 := HB1.out
      have c1 := fun i => b1.cell i
      rw [hG]
      clear hx hc hxl hx0 hy hc2 hgl hG
      by_cases h0 : k = 0
      · subst h0
        have hcat : ¬ 9223372036854775807 < G.size + y.size := by omega
        have q0 : wr.cell? ⟨b, off, none⟩ = some (.int .i64 n) := by simpa using q0
        go_wp2_with fail
        go_region
        go_wp2_with fail
        go_roundw
        case rel => exact ⟨1, by omega, by go_num, by rw [Hs.out]; rfl, HB1, up_drew hB⟩
        case measure => simp [intOf]; omega
      · have hk0 : (0 : Int) < (k : Int) := by omega
        have hcat : ¬ 9223372036854775807 < G.size + 1 := by omega
        obtain ⟨G2, hG2⟩ : ∃ G2 : ByteArray, G ++ ⟨#[32]⟩ = G2 := ⟨_, rfl⟩
        have hG2s : G2.size = G.size + 1 := by rw [← hG2, ByteArray.size_append]; rfl
        have hcat2 : ¬ 9223372036854775807 < G2.size + y.size := by omega
        have Hs2 := Lib.hid (show (⟨(sgnF l t (k + 1)).toArray⟩ : ByteArray) = G2 ++ y by rw [Hs.out, if_neg h0, hG2])
        go_wp2_with fail
        clear hG2
        go_region
        go_wp2_with fail
        go_roundw
        case rel => exact ⟨k + 1, by omega, by go_num, by rw [Hs2.out], HB1, up_drew hB⟩
        case measure => simp [intOf]; omega
    · obtain rfl : k = t.length := by omega
      go_wp2_with fail
      go_ret
      exact ⟨rfl, hB⟩
end Go.Proofs.YtonekgefegfapaaGreat

namespace Go.Proofs.YtonekgefegfapaaGreat
open Go.RowKit

theorem bytes_ne {x y : ByteArray} (h : ¬ y = x) : (y.toList == x.toList) = false := beq_eq_false_iff_ne.2 fun e => h (ByteArray.ext (Array.toList_inj.1 (by rw [← ByteArray.toList_eq, ← ByteArray.toList_eq]; exact e)))
set_option maxRecDepth 100000 in
set_option maxHeartbeats 3000000 in
theorem Fault_any (v : Value) (l : List ByteArray) (w : World) (hl : RowsAny w v 1 sc l) : Calls Tryz.prog 56 #[.agg #[v]] w fun e w' => e = .returned (iv (codeE l)) ∧ Below w.heap.size w w' := by
  obtain ⟨A, cap, hv, -, -⟩ := hl.form
  subst hv
  by_cases h6 : 6 < l.length
  · have h6' : (6 : Int) < (l.length : Int) := by omega
    have Hr := Lib.hid (show codeE l = 3 by unfold codeE; rw [if_pos h6])
    clear hl
    go_enter Tryz.func56, Tryz.ntmps56
    have B1 := Box.new (w := w) (t := 24) (cs := #[.slice A l.length cap]) rfl
    have c1 := fun i => B1.cell i
    go_wp2_with fail
    go_ret
    exact ⟨by rw [Hr.out]; rfl, up_alloc up0 _⟩
  · have h6' : ¬ (6 : Int) < (l.length : Int) := by omega
    have HL := Lib.hid (hl.rows (by omega))
    have H1 : Hid (codeB l = false → codeE l = 1) := Lib.hid fun h => by unfold codeE; rw [if_neg h6, if_pos h]
    have H0 : Hid (codeB l = true → codeE l = 0) := Lib.hid fun h => by unfold codeE; rw [if_neg h6, if_neg (by rw [h]; simp)]
    clear hl
    go_enter Tryz.func56, Tryz.ntmps56
    have B1 := Box.new (w := w) (t := 24) (cs := #[.slice A l.length cap]) rfl
    have c1 := fun i => B1.cell i
    go_wp2_with fail
    clear c1
    go_loopw [3] (fun i wr => ∃ k : Nat, k ≤ l.length ∧ i = iv k ∧ Hid (Seen l k) ∧ Hid (Box wr w.heap.size 24 #[.slice A l.length cap]) ∧ Below w.heap.size w wr) (fun i _ => l.length - (intOf i).toNat)
    case atStart => exact ⟨0, by omega, rfl, Lib.hid (seen_none l), Lib.hid B1, up_alloc up0 _⟩
    case round =>
      obtain ⟨k, hk, rfl, HS, HB1, hB⟩ := hrel
      have c1 := fun i => HB1.out.cell i
      have k0 : (0 : Int) ≤ (k : Int) := by omega
      by_cases hlt : k < l.length
      · have kl : (k : Int) < (l.length : Int) := by omega
        obtain ⟨x, hx⟩ : ∃ x, l[k]? = some x := ⟨_, List.getElem?_eq_getElem hlt⟩
        obtain ⟨b, off, rfl, hb, hc⟩ := (HL.out.kept hB).at rfl hx
        have q0 : wr.cell? ⟨b, off + k, none⟩ = some (.string x) := by simpa using hc 0 _ rfl
        have Hx := Lib.hid hx
        clear hx hc
        cases hfit : fitB x with
        | false =>
          have HI := Lib.hid (show (decide ((1 : Int) ≤ (x.size : Int)) && decide ((x.size : Int) ≤ 4)) = false by
            rw [← hfit]
            unfold fitB
            congr 1 <;> rw [decide_eq_decide] <;> omega)
          have Hr := Lib.hid (H1.out (code_fit Hx.out hfit))
          clear hfit HS
          go_wp2_with fail
          refine (In_b x.size 1 4 false _ HI.out).mono ?_
          rintro e w1 ⟨rfl, hb1⟩
          go_wp2_with fail
          go_ret
          exact ⟨by rw [Hr.out]; rfl, up_later hB hb1⟩
        | true =>
          have HI := Lib.hid (show (decide ((1 : Int) ≤ (x.size : Int)) && decide ((x.size : Int) ≤ 4)) = true by
            rw [← hfit]
            unfold fitB
            congr 1 <;> rw [decide_eq_decide] <;> omega)
          have Hfit := Lib.hid hfit
          have x4 : x.size ≤ 4 := by
            unfold fitB at hfit
            simp at hfit
            omega
          clear hfit
          go_wp2_with fail
          refine (In_b x.size 1 4 true _ HI.out).mono ?_
          rintro e w1 ⟨rfl, hb1⟩
          have hB1 := up_later hB hb1
          have B11 := HB1.out.kept hb1
          clear c1 q0 hb1 HI
          go_wp2_with fail
          go_loopw [5] (fun i wr => ∃ j : Nat, j ≤ x.size ∧ i = iv j ∧ Hid (∀ m c, m < j → x.data.toList[m]? = some c → hasB [46, 45] c = true) ∧ Hid (Box wr w.heap.size 24 #[.slice (some ⟨b, off, none⟩) l.length cap]) ∧ Below w.heap.size w wr) (fun i _ => x.size - (intOf i).toNat)
          case atStart => exact ⟨0, by omega, rfl, Lib.hid (fun m _ h => absurd h (Nat.not_lt_zero _)), Lib.hid B11, hB1⟩
          case round =>
            obtain ⟨j, hj, rfl, HF, HB2, hB2⟩ := hrel
            by_cases hjl : j < x.size
            · have hjl' : (j : Int) < (x.size : Int) := by omega
              obtain ⟨c, hc⟩ : ∃ c, x.data.toList[j]? = some c := ⟨_, List.getElem?_eq_getElem (by rw [← Lib.size_eq]; exact hjl)⟩
              have hix : ∀ w, (Instr.index 9 (.string x) (iv j)).run Tryz.prog w = .ok (.int .u8 c.toNat) w := fun w => by
                rw [run_index_string w 9 x _ _ Tryz.underlying9, dif_pos (by omega)]
                have h := (List.getElem?_eq_some_iff.1 hc).2
                have e : x[(j : Int).toNat]'(by omega) = c := by rw [← h]; rfl
                rw [e]
              by_cases hs : hasB [46, 45] c = true
              · have hgo : Hid (∀ m c, m < j + 1 → x.data.toList[m]? = some c → hasB [46, 45] c = true) := Lib.hid (fun m c' h h' => by
                  rcases Nat.lt_or_ge m j with h1 | h1
                  · exact HF.out m c' h1 h'
                  · obtain rfl : m = j := by omega
                    rw [hc] at h'
                    injection h' with h'
                    rw [← h']
                    exact hs)
                clear HF
                rcases (flash_iff c).1 hs with rfl | rfl
                all_goals
                  clear hs hc
                  have hx := hix
                  simp only [UInt8.reduceToNat, Int.cast_ofNat_Int] at hx
                  clear hix
                  go_wp2_with fail
                  go_roundw
                  case rel => exact ⟨j + 1, by omega, by go_num, hgo, HB2, hB2⟩
                  case measure => simp [intOf]; omega
              · have Hr := Lib.hid (H1.out (code_flash Hx.out (show flashB x = false by
                  unfold flashB
                  rw [List.all_eq_false]
                  exact ⟨c, List.mem_of_getElem? hc, hs⟩)))
                have hn : ∀ n : Nat, n < 256 → n = 46 ∨ n = 45 → ¬ (c.toNat : Int) = n := fun n hn h e => hs ((flash_iff c).2 (by
                  have e' : c.toNat = n := by omega
                  rcases h with rfl | rfl
                  · exact .inl (UInt8.toNat_inj.1 e')
                  · exact .inr (UInt8.toNat_inj.1 e')))
                have n1 : ((c.toNat : Int) != 46) = true := bne_iff_ne.2 (hn 46 (by decide) (by decide))
                have n2 : ((c.toNat : Int) != 45) = true := bne_iff_ne.2 (hn 45 (by decide) (by decide))
                clear hn hs HF hc
                go_wp2_with fail
                go_ret
                exact ⟨by rw [Hr.out]; rfl, hB2⟩
            · have hjl' : ¬ (j : Int) < (x.size : Int) := by omega
              have Hfl := Lib.hid (show flashB x = true by
                unfold flashB
                rw [List.all_eq_true]
                intro c hc
                obtain ⟨m, hm⟩ := List.mem_iff_getElem?.1 hc
                exact HF.out m c (by
                  have := (List.getElem?_eq_some_iff.1 hm).1
                  rw [← Lib.size_eq] at this
                  omega) hm)
              clear HF
              go_wp2_with fail
              go_loopw [6] (fun i wr => ∃ m : Nat, m ≤ k ∧ i = iv m ∧ Hid (∀ j, j < m → ¬ l[j]? = some x) ∧ Hid (Box wr w.heap.size 24 #[.slice (some ⟨b, off, none⟩) l.length cap]) ∧ Below w.heap.size w wr) (fun i _ => k - (intOf i).toNat)
              case atStart => exact ⟨0, by omega, rfl, Lib.hid (fun m h => absurd h (Nat.not_lt_zero _)), HB2, hB2⟩
              case round =>
                obtain ⟨m, hm, rfl, HN, HB3, hB3⟩ := hrel
                by_cases hml : m < k
                · have hml' : (m : Int) < (k : Int) := by omega
                  have m0 : (0 : Int) ≤ (m : Int) := by omega
                  have ml : (m : Int) < (l.length : Int) := by omega
                  obtain ⟨y, hy⟩ : ∃ y, l[m]? = some y := ⟨_, List.getElem?_eq_getElem (by omega)⟩
                  obtain ⟨b', off', e', hb', hc'⟩ := (HL.out.kept hB3).at rfl hy
                  injection e' with e'
                  injection e' with e1 e2
                  subst e1 e2
                  have q1 : wr.cell? ⟨b, off + m, none⟩ = some (.string y) := by simpa using hc' 0 _ rfl
                  have Hy := Lib.hid hy
                  have c3 := fun i => HB3.out.cell i
                  clear hy hc'
                  by_cases hxy : y = x
                  · subst hxy
                    have Hr := Lib.hid (H1.out (code_twice Hx.out Hy.out hml))
                    go_wp2_with fail
                    go_ret
                    exact ⟨by rw [Hr.out]; rfl, hB3⟩
                  · have hne : (y.toList == x.toList) = false := bytes_ne hxy
                    have HN2 : Hid (∀ j, j < m + 1 → ¬ l[j]? = some x) := Lib.hid (fun j h h' => by
                      rcases Nat.lt_or_ge j m with h1 | h1
                      · exact HN.out j h1 h'
                      · obtain rfl : j = m := by omega
                        rw [Hy.out] at h'
                        exact hxy (Option.some.inj h'))
                    go_wp2_with fail
                    go_roundw
                    case rel => exact ⟨m + 1, by omega, by go_num, HN2, HB3, hB3⟩
                    case measure => simp [intOf]; omega
                · have hml' : ¬ (m : Int) < (k : Int) := by omega
                  have HS2 := Lib.hid (seen_step HS.out Hx.out Hfit.out Hfl.out (fun j h => HN.out j (by omega)))
                  clear HN HS
                  go_wp2_with fail
                  go_roundw
                  case rel => exact ⟨k + 1, by omega, by go_num, HS2, HB3, hB3⟩
                  case measure => simp [intOf]; omega
      · have kl : ¬ (k : Int) < (l.length : Int) := by omega
        obtain rfl : k = l.length := by omega
        by_cases h0 : l.length = 0
        · have h0' : ((l.length : Int) == 0) = true := by rw [beq_iff_eq]; omega
          have Hr := Lib.hid (H1.out (show codeB l = false by unfold codeB; rw [decide_eq_false (by omega), Bool.false_and]))
          clear h0
          go_wp2_with fail
          go_ret
          exact ⟨by rw [Hr.out]; rfl, hB⟩
        · have h0' : ((l.length : Int) == 0) = false := by rw [beq_eq_false_iff_ne]; omega
          have Hr := Lib.hid (H0.out (seen_all HS.out (by omega)))
          go_wp2_with fail
          go_ret
          exact ⟨by rw [Hr.out]; rfl, hB⟩
set_option maxRecDepth 100000 in
theorem fault_any (v : Value) (l : List ByteArray) (w : World) (hl : RowsAny w v 1 sc l) : Calls Tryz.prog 24 #[.agg #[v]] w fun e w' => e = .returned (iv (codeE l)) ∧ Below w.heap.size w w' := by
  have HL := Lib.hid hl
  clear hl
  go_enter Tryz.func24, Tryz.ntmps24
  have B1 := Box.new (w := w) (t := 24) (cs := #[v]) rfl
  have c1 := fun i => B1.cell i
  go_wp2_with fail
  refine (Fault_any v l _ (HL.out.kept (up_alloc up0 _))).mono ?_
  rintro e w1 ⟨rfl, hb1⟩
  go_wp2_with fail
  go_ret
  exact ⟨rfl, up_later (up_alloc up0 _) hb1⟩
end Go.Proofs.YtonekgefegfapaaGreat

namespace Go.Proofs.YtonekgefegfapaaGreat
open Go.RowKit

/-- A part of a text, as a list. -/
def partL (f m : Nat) (t : List Int) : List Int := (t.drop f).take m
theorem partL_at (f m : Nat) (t : List Int) (i : Nat) : (partL f m t)[i]? = if i < m then t[f + i]? else none := by
  unfold partL
  rw [List.getElem?_take, List.getElem?_drop]
theorem partX_at {f m : Nat} {t : List Int} {i : Nat} : partX t f m i = ((partL f m t)[i]?).getD (-1) := by
  rw [partL_at]
  unfold partX
  by_cases h : i < m ∧ f + i < t.length
  · rw [if_pos h, if_pos h.1, List.getD_eq_getElem?_getD, List.getElem?_eq_getElem h.2]
    rfl
  · rw [if_neg h]
    by_cases h1 : i < m
    · rw [if_pos h1, List.getElem?_eq_none (by omega)]
      rfl
    · rw [if_neg h1]
      rfl
theorem partL_in {f m : Nat} {t : List Int} {x : Int} (h : x ∈ partL f m t) : x ∈ t := List.mem_of_mem_drop (List.mem_of_mem_take h)
theorem partX_same {f m : Nat} {t u : List Int} (hm : m ≤ 5) (ht : ∀ x ∈ t, 0 ≤ x) (hu : ∀ x ∈ u, 0 ≤ x) : partP f m t = partP f m u ↔ partL f m t = partL f m u := by
  constructor
  · intro h
    have h5 : ∀ i, i < 5 → partX t f m i = partX u f m i := fun i hi => by
      unfold partP at h
      injection h with h0 h1 h2 h3 h4
      rcases i with _ | _ | _ | _ | _ | i
      · exact h0
      · exact h1
      · exact h2
      · exact h3
      · exact h4
      · omega
    apply List.ext_getElem?
    intro i
    by_cases hi : i < m
    · have h := h5 i (by omega)
      rw [partX_at, partX_at] at h
      cases h1 : (partL f m t)[i]? with
      | none =>
        cases h2 : (partL f m u)[i]? with
        | none => rfl
        | some y =>
          rw [h1, h2] at h
          have := hu y (partL_in (List.mem_of_getElem? h2))
          simp only [Option.getD_none, Option.getD_some] at h
          omega
      | some x =>
        have hx := ht x (partL_in (List.mem_of_getElem? h1))
        cases h2 : (partL f m u)[i]? with
        | none =>
          rw [h1, h2] at h
          simp only [Option.getD_none, Option.getD_some] at h
          omega
        | some y =>
          rw [h1, h2] at h
          simp only [Option.getD_some] at h
          rw [h]
    · rw [partL_at, partL_at, if_neg hi, if_neg hi]
  · intro h
    have e : partX t f m = partX u f m := by
      funext i
      rw [partX_at, partX_at, h]
    unfold partP
    rw [e]
theorem nodup_map {α β γ : Type} {f : α → β} {g : α → γ} : ∀ {l : List α}, (∀ x ∈ l, ∀ y ∈ l, f x = f y ↔ g x = g y) → ((l.map f).Nodup ↔ (l.map g).Nodup)
  | [], _ => by simp
  | x :: l, h => by
    rw [List.map_cons, List.map_cons, List.nodup_cons, List.nodup_cons, nodup_map fun y hy z hz => h y (List.mem_cons_of_mem _ hy) z (List.mem_cons_of_mem _ hz)]
    have : f x ∈ l.map f ↔ g x ∈ l.map g := by
      rw [List.mem_map, List.mem_map]
      constructor
      · rintro ⟨y, hy, e⟩
        exact ⟨y, hy, (h y (List.mem_cons_of_mem _ hy) x (List.mem_cons_self ..)).1 e⟩
      · rintro ⟨y, hy, e⟩
        exact ⟨y, hy, (h y (List.mem_cons_of_mem _ hy) x (List.mem_cons_self ..)).2 e⟩
    rw [this]
/-- A part tells texts apart, by its lists. -/
def decL (ts : List (List Int)) (f m : Nat) : Bool := decide (ts.map (partL f m)).Nodup
theorem decL_same {ts : List (List Int)} {f m : Nat} (hm : m ≤ 5) (h : ∀ t ∈ ts, ∀ x ∈ t, 0 ≤ x) : decL ts f m = decB ts f m := by
  unfold decL decB
  rw [decide_eq_decide]
  exact (nodup_map fun t ht u hu => partX_same hm (h t ht) (h u hu)).symm
/-- What a look at each pair of texts says. -/
def Apart (ts : List (List Int)) (f m n : Nat) : Prop := ∀ i j t u, i < j → j < n → ts[i]? = some t → ts[j]? = some u → ¬ partL f m t = partL f m u
theorem apart_none (ts : List (List Int)) (f m : Nat) : Apart ts f m 0 := fun _ _ _ _ _ h => absurd h (Nat.not_lt_zero _)
theorem apart_step {ts : List (List Int)} {f m n : Nat} {t : List Int} (h : Apart ts f m n) (ht : ts[n]? = some t) (hn : ∀ i u, i < n → ts[i]? = some u → ¬ partL f m u = partL f m t) : Apart ts f m (n + 1) := by
  intro i j a b hij hj ha hb
  rcases Nat.lt_or_ge j n with h1 | h1
  · exact h i j a b hij h1 ha hb
  · obtain rfl : j = n := by omega
    rw [ht] at hb
    obtain rfl := Option.some.inj hb
    exact hn i a hij ha
theorem apart_all {ts : List (List Int)} {f m : Nat} : decL ts f m = true ↔ Apart ts f m ts.length := by
  unfold decL
  rw [decide_eq_true_eq, nodup_iff_at]
  constructor
  · intro h i j t u hij _ ht hu e
    exact h i j (partL f m t) hij (by rw [List.getElem?_map, ht]; rfl) (by rw [List.getElem?_map, hu, e]; rfl)
  · intro h i j x hij hi hj
    rw [List.getElem?_map, Option.map_eq_some_iff] at hi hj
    obtain ⟨t, ht, rfl⟩ := hi
    obtain ⟨u, hu, e⟩ := hj
    exact h i j t u hij (List.getElem?_eq_some_iff.1 hu).1 ht hu e.symm
theorem decL_pair {ts : List (List Int)} {f m i j : Nat} {t u : List Int} (hij : i < j) (ht : ts[i]? = some t) (hu : ts[j]? = some u) (e : partL f m t = partL f m u) : decL ts f m = false := by
  cases h : decL ts f m with
  | false => rfl
  | true => exact absurd e (apart_all.1 h i j t u hij (List.getElem?_eq_some_iff.1 hu).1 ht hu)
/-- A part that begins behind all texts decides only if each part of no letters does. -/
theorem dec_late {ts : List (List Int)} {m : Nat} (h5 : ∀ t ∈ ts, t.length ≤ 5) (h : decL ts 5 m = true) (f m' : Nat) : decL ts f m' = true := by
  rcases ts with _ | ⟨t, _ | ⟨u, ts⟩⟩
  · rfl
  · simp [decL]
  · have := decL_pair (ts := t :: u :: ts) (f := 5) (m := m) (i := 0) (j := 1) (t := t) (u := u) (by omega) rfl rfl (by
      unfold partL
      rw [List.drop_eq_nil_of_le (h5 t (by simp)), List.drop_eq_nil_of_le (h5 u (by simp))])
    rw [h] at this
    cases this
end Go.Proofs.YtonekgefegfapaaGreat

namespace Go.Proofs.YtonekgefegfapaaGreat
open Go.RowKit

/-- A way of steps from a place to another one, with so many errors. -/
inductive Way (S R : By) : Nat × Nat → Nat × Nat → Nat → Prop
  | nil (p : Nat × Nat) : Way S R p p 0
  | step {p q r : Nat × Nat} {k e : Nat} : k < 6 → aftI S R p k = some q → Way S R q r e → Way S R p r (errsN k + e)
theorem Way.trans {S R : By} {p q r : Nat × Nat} {e f : Nat} (h : Way S R p q e) (h2 : Way S R q r f) : Way S R p r (e + f) := by
  induction h with
  | nil p => rw [Nat.zero_add]; exact h2
  | step hk hq _ ih => rw [Nat.add_assoc]; exact .step hk hq (ih h2)
theorem Way.snoc {S R : By} {p q r : Nat × Nat} {e k : Nat} (h : Way S R p q e) (hk : k < 6) (hq : aftI S R q k = some r) : Way S R p r (e + errsN k) := h.trans (.step hk hq (.nil r))
theorem Way.in_ {S R : By} {p q : Nat × Nat} {e : Nat} (h : Way S R p q e) : p.1 ≤ S.length → p.2 ≤ R.length → q.1 ≤ S.length ∧ q.2 ≤ R.length := by
  induction h with
  | nil p => exact fun h1 h2 => ⟨h1, h2⟩
  | @step p q r k e hk hq _ ih =>
    intro h1 h2
    obtain ⟨i, j⟩ := p
    obtain ⟨a, c⟩ := q
    have := aftI_in hk h1 h2 hq
    exact ih this.2.1 this.2.2.2.1
theorem Way.few {S R : By} {p q : Nat × Nat} {e : Nat} (h : Way S R p q e) : q = (S.length, R.length) → p.1 ≤ S.length → p.2 ≤ R.length → fewI S R p ≤ e := by
  induction h with
  | nil p => rintro rfl _ _; rw [fewI_end]; exact Nat.le_refl _
  | @step p q r k e hk hq _ ih =>
    intro hr h1 h2
    by_cases hp : p = (S.length, R.length)
    · rw [hp, fewI_end]; exact Nat.zero_le _
    · obtain ⟨i, j⟩ := p
      obtain ⟨a, c⟩ := q
      have hin := aftI_in hk h1 h2 hq
      have h3 := few_step h1 h2 hp hk hq
      have h4 := ih hr hin.2.1 hin.2.2.2.1
      omega
theorem few_way {S R : By} (f : Nat) : ∀ (i j : Nat), leftN S R (i, j) ≤ f → i ≤ S.length → j ≤ R.length → fewI S R (i, j) < 120 → Way S R (i, j) (S.length, R.length) (fewI S R (i, j)) := by
  induction f with
  | zero =>
    intro i j hf hi hj _
    unfold leftN at hf
    simp only at hf
    obtain rfl : i = S.length := by omega
    obtain rfl : j = R.length := by omega
    rw [fewI_end]
    exact .nil _
  | succ f ih =>
    intro i j hf hi hj h
    by_cases hp : (i, j) = (S.length, R.length)
    · rw [hp, fewI_end]
      exact .nil _
    · obtain ⟨k, ⟨a, c⟩, hk, hq, he⟩ := few_best (p := (i, j)) hi hj hp h
      have hin := aftI_in hk hi hj hq
      rw [he]
      unfold leftN at hf
      simp only at hf
      exact .step hk hq (ih a c (by unfold leftN; simp only; omega) hin.2.1 hin.2.2.2.1 (by omega))
/-- So many errors are enough. -/
theorem few_iff {S R : By} {E : Nat} (hE : E < 120) : fewI S R (0, 0) ≤ E ↔ ∃ e, e ≤ E ∧ Way S R (0, 0) (S.length, R.length) e :=
  ⟨fun h => ⟨_, h, few_way _ 0 0 (Nat.le_refl _) (Nat.zero_le _) (Nat.zero_le _) (by omega)⟩, fun ⟨_, he, h⟩ => Nat.le_trans (h.few rfl (Nat.zero_le _) (Nat.zero_le _)) he⟩
/-! ### Ways through two strings, one behind the other -/
theorem aft_shift {P Q R : By} (a c k : Nat) : aftI (P ++ Q) R (P.length + a, c) k = (aftI Q R (a, c) k).map fun q => (P.length + q.1, q.2) := by
  have e : (P ++ Q).drop (P.length + a) = Q.drop a := by rw [List.drop_append, List.drop_eq_nil_of_le (by omega), List.nil_append, Nat.add_sub_cancel_left]
  unfold aftI
  simp only [e]
  split
  · simp only [Option.map_some, Option.some.injEq, Prod.mk.injEq, and_true]
    omega
  · rfl
theorem Way.shift {P Q R : By} {p q : Nat × Nat} {e : Nat} (h : Way Q R p q e) : Way (P ++ Q) R (P.length + p.1, p.2) (P.length + q.1, q.2) e := by
  induction h with
  | nil p => exact .nil _
  | @step p q r k e hk hq _ ih => exact .step hk (by rw [aft_shift, hq]; rfl) ih
theorem Way.unshift {P Q R : By} {p q : Nat × Nat} {e : Nat} (h : Way (P ++ Q) R p q e) : ∀ a c, p = (P.length + a, c) → ∃ b d, q = (P.length + b, d) ∧ Way Q R (a, c) (b, d) e := by
  induction h with
  | nil p => exact fun a c h => ⟨a, c, h, .nil _⟩
  | @step p q r k e hk hq _ ih =>
    rintro a c rfl
    rw [aft_shift, Option.map_eq_some_iff] at hq
    obtain ⟨⟨b, d⟩, h1, rfl⟩ := hq
    obtain ⟨b', d', h2, h3⟩ := ih b d rfl
    exact ⟨b', d', h2, .step hk h1 h3⟩
theorem pre_more {l p : By} (m : By) (h : Lib.hasPrefix l p = true) : Lib.hasPrefix (l ++ m) p = true := by
  unfold Lib.hasPrefix at h ⊢
  exact List.isPrefixOf_iff_prefix.2 ((List.isPrefixOf_iff_prefix.1 h).trans (List.prefix_append l m))
theorem needs_more {k : Nat} {l : By} (m : By) (hk : k < 6) (h : needsB k l = true) : needsB k (l ++ m) = true ∧ writesL k (l ++ m) = writesL k l := by
  rcases k with _ | _ | _ | _ | _ | _ | k
  · have h0 : 0 < l.length := by simpa [needsB] using h
    refine ⟨by simp [needsB]; omega, ?_⟩
    rcases l with _ | ⟨x, l⟩
    · simp at h0
    · rfl
  · refine ⟨?_, rfl⟩
    simp only [needsB, Bool.or_eq_true] at h ⊢
    exact h.imp (pre_more m) (pre_more m)
  · exact ⟨pre_more m h, rfl⟩
  · exact ⟨pre_more m h, rfl⟩
  · exact ⟨pre_more m h, rfl⟩
  · exact ⟨rfl, rfl⟩
  · omega
theorem aft_more1 {P R : By} (Q : By) {p q : Nat × Nat} {k : Nat} (hk : k < 6) (hp : p.1 ≤ P.length) (h : aftI P R p k = some q) : aftI (P ++ Q) R p k = some q := by
  unfold aftI at h ⊢
  rw [List.drop_append_of_le_length hp]
  by_cases hc : (needsB k (P.drop p.1) && Lib.hasPrefix (R.drop p.2) (writesL k (P.drop p.1))) = true
  · rw [if_pos hc] at h
    obtain ⟨h1, h2⟩ := Bool.and_eq_true _ _ ▸ hc
    obtain ⟨m1, m2⟩ := needs_more Q hk h1
    rw [m2, if_pos (by rw [m1, h2]; rfl)]
    exact h
  · rw [if_neg hc] at h
    cases h
theorem Way.more1 {P R : By} (Q : By) {p q : Nat × Nat} {e : Nat} (h : Way P R p q e) : p.1 ≤ P.length → p.2 ≤ R.length → Way (P ++ Q) R p q e := by
  induction h with
  | nil p => exact fun _ _ => .nil _
  | @step p q r k e hk hq _ ih =>
    intro h1 h2
    obtain ⟨i, j⟩ := p
    obtain ⟨a, c⟩ := q
    have hin := aftI_in hk h1 h2 hq
    exact .step hk (aft_more1 Q hk h1 hq) (ih hin.2.1 hin.2.2.2.1)
/-- The second string begins with a gap, or one of them is empty: no step goes through both. -/
def Gap (P Q : By) : Prop := P = [] ∨ Q = [] ∨ ∃ T, Q = 32 :: T
theorem pre_cons {x c : UInt8} {l p : By} : Lib.hasPrefix (x :: l) (c :: p) = (c == x && Lib.hasPrefix l p) := rfl
theorem aft_less {P Q R : By} (hg : Gap P Q) {a c k : Nat} {q : Nat × Nat} (hk : k < 6) (ha : a < P.length) (h : aftI (P ++ Q) R (a, c) k = some q) : aftI P R (a, c) k = some q ∧ q.1 ≤ P.length := by
  have e : (P ++ Q).drop a = P.drop a ++ Q := List.drop_append_of_le_length (by omega)
  have hl : 0 < (P.drop a).length := by rw [List.length_drop]; omega
  obtain ⟨x, t, hx⟩ : ∃ x t, P.drop a = x :: t := by
    cases hd : P.drop a with
    | nil => rw [hd] at hl; simp at hl
    | cons x t => exact ⟨x, t, rfl⟩
  have hn : needsB k (P.drop a ++ Q) = true → needsB k (P.drop a) = true := by
    rw [hx]
    intro hn
    rcases k with _ | _ | _ | _ | _ | _ | k
    · simp [needsB]
    · exact hn
    · exact hn
    · simp only [needsB] at hn ⊢
      rw [List.cons_append, pre_cons] at hn
      rw [pre_cons]
      rcases t with _ | ⟨y, t⟩
      · rcases hg with rfl | rfl | ⟨T, rfl⟩
        · simp at ha
        · simp [Lib.hasPrefix] at hn
        · simp [Lib.hasPrefix, List.isPrefixOf] at hn
      · exact hn
    · exact hn
    · rfl
    · omega
  have hw : writesL k (P.drop a ++ Q) = writesL k (P.drop a) := by
    rw [hx]
    rcases k with _ | _ | _ | _ | _ | _ | k <;> rfl
  have h2 : aftI P R (a, c) k = some q := by
    unfold aftI at h ⊢
    rw [e, hw] at h
    by_cases hc : (needsB k (P.drop a ++ Q) && Lib.hasPrefix (R.drop c) (writesL k (P.drop a))) = true
    · rw [if_pos hc] at h
      obtain ⟨h1, h2⟩ := Bool.and_eq_true _ _ ▸ hc
      rw [if_pos (by rw [hn h1, h2]; rfl)]
      exact h
    · rw [if_neg hc] at h
      cases h
  refine ⟨h2, ?_⟩
  unfold aftI at h2
  split at h2
  · rename_i hc
    have h1 := (Bool.and_eq_true _ _ ▸ hc : _ ∧ _).1
    have := takes_in hk h1
    rw [List.length_drop] at this
    injection h2 with h2
    rw [← h2]
    simp only at this ⊢
    omega
  · cases h2
theorem Way.split {P Q R : By} (hg : Gap P Q) {p q : Nat × Nat} {e : Nat} (h : Way (P ++ Q) R p q e) : ∀ d, q = (P.length + Q.length, d) → p.1 ≤ P.length → p.2 ≤ R.length → ∃ c0 e0 e1, Way P R p (P.length, c0) e0 ∧ Way Q R (0, c0) (Q.length, d) e1 ∧ e = e0 + e1 ∧ c0 ≤ R.length := by
  have last : ∀ {p q : Nat × Nat} {e : Nat}, Way (P ++ Q) R p q e → ∀ d, q = (P.length + Q.length, d) → p.1 = P.length → p.2 ≤ R.length → ∃ c0 e0 e1, Way P R p (P.length, c0) e0 ∧ Way Q R (0, c0) (Q.length, d) e1 ∧ e = e0 + e1 ∧ c0 ≤ R.length := by
    intro p q e h d hq hp h2
    obtain ⟨a, c⟩ := p
    simp only at hp h2
    subst hp
    obtain ⟨b, d', hb, hw⟩ := h.unshift 0 c rfl
    rw [hq] at hb
    injection hb with hb1 hb2
    obtain rfl : b = Q.length := by omega
    subst hb2
    exact ⟨c, 0, e, .nil _, hw, by omega, h2⟩
  induction h with
  | nil p =>
    intro d hq h1 h2
    subst hq
    simp only at h1
    exact last (.nil _) d rfl (by simp only; omega) h2
  | @step p q r k e hk hq hw ih =>
    intro d hr h1 h2
    by_cases hp : p.1 = P.length
    · exact last (.step hk hq hw) d hr hp h2
    · obtain ⟨a, c⟩ := p
      simp only at h1 h2 hp
      obtain ⟨h3, h4⟩ := aft_less hg hk (by omega) hq
      obtain ⟨i, j⟩ := q
      have hin := aftI_in hk h1 h2 h3
      obtain ⟨c0, e0, e1, w0, w1, he, hc⟩ := ih d hr h4 hin.2.2.2.1
      exact ⟨c0, errsN k + e0, e1, .step hk h3 w0, w1, by omega, hc⟩
/-- A way through both is a way through each. -/
theorem way_both {P Q R : By} (hg : Gap P Q) {d e : Nat} : Way (P ++ Q) R (0, 0) (P.length + Q.length, d) e ↔ ∃ c0 e0 e1, Way P R (0, 0) (P.length, c0) e0 ∧ Way Q R (0, c0) (Q.length, d) e1 ∧ e = e0 + e1 ∧ c0 ≤ R.length := by
  constructor
  · intro h
    exact h.split hg d rfl (Nat.zero_le _) (Nat.zero_le _)
  · rintro ⟨c0, e0, e1, w0, w1, rfl, _⟩
    exact (w0.more1 Q (Nat.zero_le _) (Nat.zero_le _)).trans w1.shift
/-! ### The rows -/
theorem getD_set {st : List Nat} {n : Nat} (m v : Nat) (hn : n < st.length) : (st.set n v).getD m 120 = if n = m then v else st.getD m 120 := by
  rw [List.getD_eq_getElem?_getD, List.getElem?_set, List.getD_eq_getElem?_getD]
  by_cases h : n = m
  · subst h
    rw [if_pos rfl, if_pos hn, if_pos rfl]
    rfl
  · rw [if_neg h, if_neg h]
def idx (x : Nat × Nat × Nat) : Nat := x.2.1 * 41 + x.2.2
theorem step_get {E e : Nat} {st : List Nat} {x : Nat × Nat × Nat} (hx : idx x < st.length) (m : Nat) : (stepN E e st x).getD m 120 = if idx x = m ∧ e + errsN x.1 ≤ E then min (st.getD m 120) (e + errsN x.1) else st.getD m 120 := by
  unfold stepN
  by_cases h : e + errsN x.1 ≤ E
  · rw [if_pos h]
    have hs := getD_set (st := st) m (min (st.getD (x.2.1 * 41 + x.2.2) 120) (e + errsN x.1)) hx
    unfold idx at hs
    rw [hs]
    unfold idx
    by_cases h2 : x.2.1 * 41 + x.2.2 = m
    · rw [if_pos h2, if_pos ⟨h2, h⟩, ← h2]
    · rw [if_neg h2, if_neg fun q => h2 q.1]
  · rw [if_neg h, if_neg fun q => h q.2]
theorem step_len {E e : Nat} {st : List Nat} (x : Nat × Nat × Nat) : (stepN E e st x).length = st.length := by
  unfold stepN
  split
  · rw [List.length_set]
  · rfl
theorem steps_len {E e : Nat} : ∀ (L : List (Nat × Nat × Nat)) (st : List Nat), (L.foldl (stepN E e) st).length = st.length
  | [], _ => rfl
  | x :: L, st => by rw [List.foldl_cons, steps_len L, step_len]
theorem steps_le {E e : Nat} (m : Nat) : ∀ (L : List (Nat × Nat × Nat)) (st : List Nat), (∀ x ∈ L, idx x < st.length) → (L.foldl (stepN E e) st).getD m 120 ≤ st.getD m 120
  | [], _, _ => Nat.le_refl _
  | x :: L, st, h => by
    rw [List.foldl_cons]
    refine Nat.le_trans (steps_le m L _ fun y hy => by rw [step_len]; exact h y (List.mem_cons_of_mem _ hy)) ?_
    rw [step_get (h x (List.mem_cons_self ..))]
    split
    · exact Nat.min_le_left _ _
    · exact Nat.le_refl _
theorem steps_same {E e : Nat} (m : Nat) : ∀ (L : List (Nat × Nat × Nat)) (st : List Nat), (∀ x ∈ L, idx x < st.length) → (∀ x ∈ L, idx x ≠ m) → (L.foldl (stepN E e) st).getD m 120 = st.getD m 120
  | [], _, _, _ => rfl
  | x :: L, st, h, hm => by
    rw [List.foldl_cons, steps_same m L _ (fun y hy => by rw [step_len]; exact h y (List.mem_cons_of_mem _ hy)) (fun y hy => hm y (List.mem_cons_of_mem _ hy)), step_get (h x (List.mem_cons_self ..)), if_neg fun q => hm x (List.mem_cons_self ..) q.1]
theorem steps_hit {E e : Nat} {x : Nat × Nat × Nat} (he : e + errsN x.1 ≤ E) : ∀ (L : List (Nat × Nat × Nat)) (st : List Nat), (∀ x ∈ L, idx x < st.length) → x ∈ L → (L.foldl (stepN E e) st).getD (idx x) 120 ≤ e + errsN x.1
  | y :: L, st, h, hx => by
    rw [List.foldl_cons]
    rcases List.mem_cons.1 hx with rfl | hx
    · refine Nat.le_trans (steps_le _ L _ fun y hy => by rw [step_len]; exact h y (List.mem_cons_of_mem _ hy)) ?_
      rw [step_get (h x (List.mem_cons_self ..)), if_pos ⟨rfl, he⟩]
      exact Nat.min_le_right _ _
    · exact steps_hit he L _ (fun y hy => by rw [step_len]; exact h y (List.mem_cons_of_mem _ hy)) hx
theorem steps_from {E e : Nat} (m : Nat) : ∀ (L : List (Nat × Nat × Nat)) (st : List Nat), (∀ x ∈ L, idx x < st.length) → (L.foldl (stepN E e) st).getD m 120 = st.getD m 120 ∨ ∃ x ∈ L, idx x = m ∧ e + errsN x.1 ≤ E ∧ (L.foldl (stepN E e) st).getD m 120 = e + errsN x.1
  | [], _, _ => .inl rfl
  | x :: L, st, h => by
    rw [List.foldl_cons]
    rcases steps_from (E := E) (e := e) m L (stepN E e st x) (fun y hy => by rw [step_len]; exact h y (List.mem_cons_of_mem _ hy)) with h1 | ⟨y, hy, h1, h2, h3⟩
    · rw [h1, step_get (h x (List.mem_cons_self ..))]
      by_cases hc : idx x = m ∧ e + errsN x.1 ≤ E
      · rw [if_pos hc]
        by_cases hm : st.getD m 120 ≤ e + errsN x.1
        · exact .inl (Nat.min_eq_left hm)
        · exact .inr ⟨x, List.mem_cons_self .., hc.1, hc.2, Nat.min_eq_right (by omega)⟩
      · rw [if_neg hc]
        exact .inl rfl
    · exact .inr ⟨y, List.mem_cons_of_mem _ hy, h1, h2, h3⟩
/-- What is known of the rows when all places ahead of (i, j) are done. -/
structure Rel (Q R : By) (E : Nat) (bf : List Nat) (i j : Nat) (st : List Nat) : Prop where
  len : st.length = (Q.length + 1) * 41
  sound : ∀ a c, a ≤ Q.length → c ≤ R.length → st.getD (a * 41 + c) 120 = 120 ∨ st.getD (a * 41 + c) 120 ≤ E ∧ ∃ c0 e1, c0 ≤ R.length ∧ Way Q R (0, c0) (a, c) e1 ∧ bf.getD c0 120 ≠ 120 ∧ st.getD (a * 41 + c) 120 = bf.getD c0 120 + e1
  full : ∀ a c, (a < i ∨ a = i ∧ c < j) → a ≤ Q.length → c ≤ R.length → st.getD (a * 41 + c) 120 ≠ 120 → ∀ k b d, k < 6 → aftI Q R (a, c) k = some (b, d) → st.getD (a * 41 + c) 120 + errsN k ≤ E → st.getD (b * 41 + d) 120 ≤ st.getD (a * 41 + c) 120 + errsN k
  first : ∀ c, c ≤ R.length → st.getD c 120 ≤ bf.getD c 120
  out : ∀ a c, a ≤ Q.length → R.length < c → c < 41 → st.getD (a * 41 + c) 120 = 120
theorem Rel.relax {Q R : By} {E i j : Nat} {bf st : List Nat} (hR : R.length ≤ 40) (hE : E < 120) (hi : i ≤ Q.length) (hj : j ≤ R.length) (h : Rel Q R E bf i j st) : Rel Q R E bf i (j + 1) (relaxN Q R E st i j) := by
  unfold relaxN
  obtain ⟨e, he⟩ : ∃ e, st.getD (i * 41 + j) 120 = e := ⟨_, rfl⟩
  rw [he]
  by_cases h120 : e = 120
  · rw [if_pos h120]
    refine ⟨h.len, h.sound, fun a c hac ha hc hne => ?_, h.first, h.out⟩
    rcases hac with h1 | ⟨rfl, h1⟩
    · exact h.full a c (.inl h1) ha hc hne
    · by_cases h2 : c < j
      · exact h.full a c (.inr ⟨rfl, h2⟩) ha hc hne
      · obtain rfl : c = j := by omega
        exact absurd (he.trans h120) hne
  · rw [if_neg h120]
    have hin : ∀ x ∈ nextI Q R (i, j), idx x < st.length ∧ x.1 < 6 ∧ aftI Q R (i, j) x.1 = some x.2 ∧ i ≤ x.2.1 ∧ x.2.1 ≤ Q.length ∧ j ≤ x.2.2 ∧ x.2.2 ≤ R.length ∧ i + j < x.2.1 + x.2.2 := fun x hx => by
      obtain ⟨k, a, c⟩ := x
      obtain ⟨h1, h2⟩ := nextI_mem hx
      have h3 := aftI_in h1 hi hj h2
      refine ⟨?_, h1, h2, h3⟩
      rw [h.len]
      unfold idx
      simp only
      omega
    have hl : ∀ x ∈ nextI Q R (i, j), idx x < st.length := fun x hx => (hin x hx).1
    obtain ⟨sN, hsN⟩ : ∃ s, (nextI Q R (i, j)).foldl (stepN E e) st = s := ⟨_, rfl⟩
    have hle : ∀ m, sN.getD m 120 ≤ st.getD m 120 := fun m => by rw [← hsN]; exact steps_le m _ _ hl
    have hsame : ∀ a c, c < 41 → (a < i ∨ a = i ∧ c ≤ j) → sN.getD (a * 41 + c) 120 = st.getD (a * 41 + c) 120 := fun a c hc hac => by
      rw [← hsN]
      refine steps_same _ _ _ hl fun x hx => ?_
      have := hin x hx
      unfold idx
      omega
    have hfrom : ∀ m, sN.getD m 120 = st.getD m 120 ∨ ∃ x ∈ nextI Q R (i, j), idx x = m ∧ e + errsN x.1 ≤ E ∧ sN.getD m 120 = e + errsN x.1 := fun m => by rw [← hsN]; exact steps_from m _ _ hl
    have hhit : ∀ k b d, k < 6 → aftI Q R (i, j) k = some (b, d) → e + errsN k ≤ E → sN.getD (b * 41 + d) 120 ≤ e + errsN k := fun k b d hk hq hke => by
      rw [← hsN]
      exact steps_hit (x := (k, b, d)) hke _ _ hl (List.mem_filterMap.2 ⟨k, List.mem_range.2 hk, by rw [hq]; rfl⟩)
    rw [hsN]
    refine ⟨by rw [← hsN, steps_len]; exact h.len, fun a c ha hc => ?_, fun a c hac ha hc hne k b d hk hq hke => ?_, fun c hc => Nat.le_trans (hle c) (h.first c hc), fun a c ha hc h41 => ?_⟩
    · rcases hfrom (a * 41 + c) with h1 | ⟨x, hx, h1, h2, h3⟩
      · rw [h1]
        exact h.sound a c ha hc
      · have hx' := hin x hx
        obtain ⟨k, b, d⟩ := x
        unfold idx at h1
        simp only at h1 h2 h3 hx'
        obtain rfl : b = a := by omega
        obtain rfl : d = c := by omega
        rcases h.sound i j hi hj with h4 | ⟨_, c0, e1, q1, q2, q3, q4⟩
        · exact absurd (he.symm.trans h4) h120
        · refine .inr ⟨by omega, c0, e1 + errsN k, q1, q2.snoc hx'.2.1 hx'.2.2.1, q3, ?_⟩
          rw [h3]
          omega
    · have hac2 : a < i ∨ a = i ∧ c ≤ j := by omega
      have hs := hsame a c (by omega) hac2
      rw [hs] at hne hke ⊢
      by_cases hnew : a = i ∧ c = j
      · obtain ⟨rfl, rfl⟩ := hnew
        rw [he] at hke ⊢
        exact hhit k b d hk hq hke
      · exact Nat.le_trans (hle _) (h.full a c (by omega) ha hc hne k b d hk hq hke)
    · rcases hfrom (a * 41 + c) with h1 | ⟨x, hx, h1, _, _⟩
      · rw [h1]
        exact h.out a c ha hc h41
      · have hx' := hin x hx
        unfold idx at h1
        omega
theorem Rel.row {Q R : By} {E i : Nat} {bf st : List Nat} (hR : R.length ≤ 40) (hE : E < 120) (hi : i ≤ Q.length) (h : Rel Q R E bf i 0 st) : ∀ j, j ≤ R.length + 1 → Rel Q R E bf i j (rowF Q R E i j st)
  | 0, _ => h
  | j + 1, hj => by rw [rowF_succ]; exact (Rel.row hR hE hi h j (by omega)).relax hR hE hi (by omega)
theorem Rel.next {Q R : By} {E i : Nat} {bf st : List Nat} (h : Rel Q R E bf i (R.length + 1) st) : Rel Q R E bf (i + 1) 0 st :=
  ⟨h.len, h.sound, fun a c hac ha hc => h.full a c (by omega) ha hc, h.first, h.out⟩
theorem Rel.rows {Q R : By} {E : Nat} {bf st : List Nat} (hR : R.length ≤ 40) (hE : E < 120) (h : Rel Q R E bf 0 0 st) : ∀ i, i ≤ Q.length + 1 → Rel Q R E bf i 0 (rowsF Q R E i st)
  | 0, _ => h
  | i + 1, hi => by rw [rowsF_succ]; exact ((Rel.rows hR hE h i (by omega)).row hR hE (by omega) _ (Nat.le_refl _)).next
/-- What a row says that stands behind a string's signs. -/
structure RowIs (P R : By) (E : Nat) (r : List Nat) : Prop where
  len : r.length = 41
  sound : ∀ c, c ≤ R.length → r.getD c 120 = 120 ∨ r.getD c 120 ≤ E ∧ Way P R (0, 0) (P.length, c) (r.getD c 120)
  full : ∀ c e, c ≤ R.length → e ≤ E → Way P R (0, 0) (P.length, c) e → r.getD c 120 ≤ e
  out : ∀ c, R.length < c → c < 41 → r.getD c 120 = 120
theorem rel_start {Q R : By} {E : Nat} {bf : List Nat} (hlen : bf.length = 41) (hs : ∀ c, c ≤ R.length → bf.getD c 120 = 120 ∨ bf.getD c 120 ≤ E) (ho : ∀ c, R.length < c → c < 41 → bf.getD c 120 = 120) : Rel Q R E bf 0 0 (bf ++ List.replicate (Q.length * 41) 120) := by
  have hget : ∀ a c, c < 41 → (bf ++ List.replicate (Q.length * 41) 120).getD (a * 41 + c) 120 = if a = 0 then bf.getD c 120 else 120 := fun a c hc => by
    by_cases ha : a = 0
    · subst ha
      rw [if_pos rfl, List.getD_eq_getElem?_getD, List.getElem?_append_left (by omega), List.getD_eq_getElem?_getD]
      simp
    · rw [if_neg ha, List.getD_eq_getElem?_getD, List.getElem?_append_right (by omega), List.getElem?_replicate]
      split <;> rfl
  refine ⟨by rw [List.length_append, List.length_replicate, hlen]; omega, fun a c ha hc => ?_, fun a c hac => by omega, fun c hc => ?_, fun a c ha hc h41 => ?_⟩
  · by_cases h41 : c < 41
    · rw [hget a c h41]
      by_cases ha : a = 0
      · subst ha
        rw [if_pos rfl]
        rcases hs c hc with h | h
        · exact .inl h
        · by_cases h120 : bf.getD c 120 = 120
          · exact .inl h120
          · exact .inr ⟨h, c, 0, hc, .nil _, h120, rfl⟩
      · rw [if_neg ha]
        exact .inl rfl
    · by_cases h : a * 41 + c < 41
      · omega
      · left
        rw [List.getD_eq_getElem?_getD, List.getElem?_append_right (by omega), List.getElem?_replicate]
        split <;> rfl
  · by_cases h41 : c < 41
    · have := hget 0 c h41
      rw [Nat.zero_mul, Nat.zero_add, if_pos rfl] at this
      rw [this]
      exact Nat.le_refl _
    · rw [List.getD_eq_getElem?_getD, List.getD_eq_getElem?_getD, List.getElem?_append_right (by omega), List.getElem?_eq_none (l := bf) (by omega), List.getElem?_replicate]
      split <;> exact Nat.le_refl _
  · rw [hget a c h41]
    split
    · exact ho c hc h41
    · rfl
theorem send_len (Q R : By) (E : Nat) {bf : List Nat} (hlen : bf.length = 41) (hs : ∀ x ∈ bf, x ≤ 120) : (sendN Q R E bf).length = 41 := by
  have h0 : OkL (Q.length + 1) (bf ++ List.replicate (Q.length * 41) 120) := by
    refine ⟨by rw [List.length_append, List.length_replicate, hlen]; omega, fun x hx => ?_⟩
    rcases List.mem_append.1 hx with hx | hx
    · exact hs x hx
    · rw [(List.mem_replicate.1 hx).2]
      exact Nat.le_refl _
  have := (h0.rows (E := E) (S := Q) (R := R) (Q.length + 1)).1
  unfold sendN
  rw [List.length_drop, this]
  omega
theorem send_full {Q R : By} {E : Nat} {bf st : List Nat} {i : Nat} (hi : Q.length < i) (h : Rel Q R E bf i 0 st) {p q : Nat × Nat} {e : Nat} (hw : Way Q R p q e) : ∀ v, p.1 ≤ Q.length → p.2 ≤ R.length → st.getD (p.1 * 41 + p.2) 120 ≤ v → v + e ≤ E → E < 120 → st.getD (q.1 * 41 + q.2) 120 ≤ v + e := by
  induction hw with
  | nil p => intro v _ _ hv _ _; exact hv
  | @step p q r k e hk hq _ ih =>
    intro v h1 h2 hv he hE
    obtain ⟨a, c⟩ := p
    obtain ⟨b, d⟩ := q
    simp only at h1 h2 hv
    have hin := aftI_in hk h1 h2 hq
    have h3 := h.full a c (by omega) h1 h2 (by omega) k b d hk hq (by omega)
    have := ih (v + errsN k) hin.2.1 hin.2.2.2.1 (by simp only; omega) (by omega) hE
    omega
/-- **A letter's signs more**: the row behind them. -/
theorem send_is {P Q R : By} {E : Nat} {bf : List Nat} (hR : R.length ≤ 40) (hE : E < 120) (hg : Gap P Q) (h : RowIs P R E bf) (h120 : ∀ x ∈ bf, x ≤ 120) : RowIs (P ++ Q) R E (sendN Q R E bf) := by
  have h0 := rel_start (Q := Q) (R := R) (E := E) h.len (fun c hc => (h.sound c hc).imp id fun q => q.1) h.out
  have hF := h0.rows hR hE (Q.length + 1) (Nat.le_refl _)
  have hget : ∀ c, (sendN Q R E bf).getD c 120 = (rowsF Q R E (Q.length + 1) (bf ++ List.replicate (Q.length * 41) 120)).getD (Q.length * 41 + c) 120 := fun c => by
    unfold sendN
    rw [List.getD_eq_getElem?_getD, List.getElem?_drop, List.getD_eq_getElem?_getD]
  refine ⟨send_len Q R E h.len h120, fun c hc => ?_, fun c e hc he hw => ?_, fun c hc h41 => ?_⟩
  · rw [hget c]
    rcases hF.sound Q.length c (Nat.le_refl _) hc with h1 | ⟨h1, c0, e1, q1, q2, q3, q4⟩
    · exact .inl h1
    · refine .inr ⟨h1, ?_⟩
      rcases h.sound c0 q1 with h2 | ⟨h2, h3⟩
      · exact absurd h2 q3
      · rw [q4, List.length_append]
        exact (way_both hg).2 ⟨c0, _, e1, h3, q2, rfl, q1⟩
  · rw [List.length_append] at hw
    obtain ⟨c0, e0, e1, w0, w1, rfl, hc0⟩ := (way_both hg).1 hw
    have h1 := h.full c0 e0 hc0 (by omega) w0
    have h2 := hF.first c0 hc0
    rw [hget c]
    exact send_full (Nat.lt_succ_self _) hF w1 e0 (Nat.zero_le _) hc0 (by simp only [Nat.zero_mul, Nat.zero_add]; omega) he hE
  · rw [hget c]
    exact hF.out Q.length c (Nat.le_refl _) hc h41
theorem send_120 {Q R : By} {E : Nat} {bf : List Nat} (hlen : bf.length = 41) (hs : ∀ x ∈ bf, x ≤ 120) : ∀ x ∈ sendN Q R E bf, x ≤ 120 := by
  have h0 : OkL (Q.length + 1) (bf ++ List.replicate (Q.length * 41) 120) := by
    refine ⟨by rw [List.length_append, List.length_replicate, hlen]; omega, fun x hx => ?_⟩
    rcases List.mem_append.1 hx with hx | hx
    · exact hs x hx
    · rw [(List.mem_replicate.1 hx).2]
      exact Nat.le_refl _
  have := (h0.rows (E := E) (S := Q) (R := R) (Q.length + 1)).2
  intro x hx
  unfold sendN at hx
  exact this x (List.mem_of_mem_drop hx)
theorem hope_get (c : Nat) : (hopeL 41).getD c 120 = 120 := by
  unfold hopeL
  rw [List.getD_eq_getElem?_getD, Nat.sub_self, List.replicate_zero, List.append_nil, List.getElem?_replicate]
  split <;> rfl
/-- The row ahead of the first letter. -/
theorem start_is {R : By} {E : Nat} (hR : R.length ≤ 40) (hE : E < 120) : RowIs [] R E (startN R E) ∧ ∀ x ∈ startN R E, x ≤ 120 := by
  have hb : ((hopeL 41).set 0 0).length = 41 := by rw [List.length_set]; rfl
  have h120 := start_ok.2
  have hg : ∀ c, ((hopeL 41).set 0 0).getD c 120 = if c = 0 then 0 else 120 := fun c => by
    rw [getD_set _ _ (by decide)]
    by_cases h : c = 0
    · subst h; rfl
    · rw [if_neg (fun e => h e.symm), if_neg h, hope_get]
  have h0 := rel_start (Q := []) (R := R) (E := E) hb (fun c _ => by
    rw [hg c]
    split
    · exact .inr (Nat.zero_le _)
    · exact .inl rfl) (fun c hc _ => by rw [hg c, if_neg (by omega)])
  have hF := h0.rows hR hE 1 (Nat.le_refl _)
  have hget : ∀ c, (startN R E).getD c 120 = (rowsF [] R E 1 ((hopeL 41).set 0 0 ++ List.replicate (([] : By).length * 41) 120)).getD c 120 := fun c => by
    unfold startN sendN
    rw [List.getD_eq_getElem?_getD, List.getElem?_drop, List.getD_eq_getElem?_getD]
    simp only [List.length_nil, Nat.zero_mul, Nat.zero_add]
  refine ⟨⟨send_len [] R E hb h120, fun c hc => ?_, fun c e hc he hw => ?_, fun c hc h41 => ?_⟩, send_120 hb h120⟩
  · rw [hget c]
    have h1 := hF.sound 0 c (Nat.zero_le _) hc
    rw [Nat.zero_mul, Nat.zero_add] at h1
    rcases h1 with h1 | ⟨h1, c0, e1, q1, q2, q3, q4⟩
    · exact .inl h1
    · rw [hg c0] at q3 q4
      by_cases h : c0 = 0
      · subst h
        rw [if_pos rfl, Nat.zero_add] at q4
        refine .inr ⟨h1, ?_⟩
        rw [q4]
        exact q2
      · rw [if_neg h] at q3
        exact absurd rfl q3
  · rw [hget c]
    have h2 := hF.first 0 (Nat.zero_le _)
    rw [hg 0, if_pos rfl] at h2
    have h3 := send_full (Nat.lt_succ_self _) hF hw 0 (Nat.zero_le _) (Nat.zero_le _) (by simpa using h2) (by omega) hE
    simpa using h3
  · rw [hget c]
    have := hF.out 0 c (Nat.zero_le _) hc h41
    rwa [Nat.zero_mul, Nat.zero_add] at this
end Go.Proofs.YtonekgefegfapaaGreat

namespace Go.Proofs.YtonekgefegfapaaGreat
open Go.RowKit

theorem sgnF_more (l : List ByteArray) (t u : List Int) : ∀ n, n ≤ t.length → sgnF l (t ++ u) n = sgnF l t n
  | 0, _ => rfl
  | n + 1, h => by
    rw [sgnF_succ, sgnF_succ, sgnF_more l t u n (by omega), List.getD_eq_getElem?_getD, List.getElem?_append_left (by omega), List.getD_eq_getElem?_getD]
theorem sgnI_snoc (l : List ByteArray) (t : List Int) (i : Int) : sgnI l (t ++ [i]) = sgnI l t ++ (addS l i.toNat (t.length == 0)).data.toList := by
  unfold sgnI
  rw [List.length_append, List.length_singleton, sgnF_succ, sgnF_more l t [i] _ (Nat.le_refl _), List.getD_eq_getElem?_getD, List.getElem?_append_right (Nat.le_refl _), Nat.sub_self]
  rfl
theorem sgnI_nil (l : List ByteArray) : sgnI l [] = [] := rfl
theorem addS_gap (l : List ByteArray) (x : Nat) : ∃ T, (addS l x false).data.toList = 32 :: T := ⟨(l.getD x ⟨#[]⟩).data.toList, by unfold addS; rw [if_neg (by simp)]; simp⟩
theorem gap_kid (l : List ByteArray) (t : List Int) (i : Nat) : Gap (sgnI l t) (kidB l t i).data.toList := by
  unfold kidB
  rcases t with _ | ⟨x, t⟩
  · exact .inl rfl
  · exact .inr (.inr (addS_gap l i))
/-- What is behind a text's signs begins with a gap. -/
theorem sgnI_cut (l : List ByteArray) (t : List Int) : ∀ (u : List Int), ∃ Q, sgnI l (t ++ u) = sgnI l t ++ Q ∧ Gap (sgnI l t) Q := by
  intro u
  by_cases ht : t = []
  · subst ht
    exact ⟨sgnI l u, rfl, .inl rfl⟩
  · have h : ∀ n (u : List Int), u.length = n → ∃ Q, sgnI l (t ++ u) = sgnI l t ++ Q ∧ (Q = [] ∨ ∃ T, Q = 32 :: T) := by
      intro n
      induction n with
      | zero => intro u hu; exact ⟨[], by rw [List.eq_nil_of_length_eq_zero hu, List.append_nil, List.append_nil], .inl rfl⟩
      | succ n ih =>
        intro u hu
        have hne : u ≠ [] := fun e => by subst e; simp at hu
        obtain ⟨Q, h1, h2⟩ := ih u.dropLast (by rw [List.length_dropLast, hu]; rfl)
        have e : t ++ u = (t ++ u.dropLast) ++ [u.getLast hne] := by rw [List.append_assoc, List.dropLast_concat_getLast]
        have h0 : ((t ++ u.dropLast).length == 0) = false := by
          rw [List.length_append, beq_eq_false_iff_ne]
          have := List.length_pos_iff.2 ht
          omega
        obtain ⟨T, hT⟩ := addS_gap l (u.getLast hne).toNat
        refine ⟨Q ++ 32 :: T, by rw [e, sgnI_snoc, h0, hT, h1, List.append_assoc], .inr ?_⟩
        rcases h2 with rfl | ⟨T', rfl⟩
        · exact ⟨T, rfl⟩
        · exact ⟨T' ++ 32 :: T, rfl⟩
    obtain ⟨Q, h1, h2⟩ := h _ u rfl
    exact ⟨Q, h1, .inr h2⟩
theorem row_end {P R : By} {E : Nat} {r : List Nat} (hE : E < 120) (h : RowIs P R E r) : ¬ r.getD R.length 120 = 120 ↔ fewI P R (0, 0) ≤ E := by
  rw [few_iff hE]
  constructor
  · intro hn
    rcases h.sound R.length (Nat.le_refl _) with h1 | ⟨h1, h2⟩
    · exact absurd h1 hn
    · exact ⟨_, h1, h2⟩
  · rintro ⟨e, he, hw⟩
    have := h.full R.length e (Nat.le_refl _) he hw
    omega
theorem row_hope {P Q R : By} {E : Nat} (hE : E < 120) (h : RowIs P R E (hopeL 41)) (hg : Gap P Q) : ¬ fewI (P ++ Q) R (0, 0) ≤ E := by
  rw [few_iff hE]
  rintro ⟨e, he, hw⟩
  rw [List.length_append] at hw
  obtain ⟨c0, e0, e1, w0, _, rfl, hc0⟩ := (way_both hg).1 hw
  have := h.full c0 e0 hc0 (by omega) w0
  rw [hope_get] at this
  omega
theorem one_if {α : Type} {x t : α} {n : Nat} : (x ∈ if n ≠ 120 then [t] else []) ↔ x = t ∧ ¬ n = 120 := by
  by_cases h : n = 120
  · rw [if_neg (fun q => q h)]
    exact ⟨fun q => (nomatch q), fun q => absurd h q.2⟩
  · rw [if_pos h, List.mem_singleton]
    exact ⟨fun q => ⟨q, h⟩, fun q => q.1⟩
/-- **What the search finds.** -/
theorem addF_iff {l : List ByteArray} {R : By} {E : Nat} (hR : R.length ≤ 40) (hE : E < 120) : ∀ (f : Nat) (t : List Int) (r : List Nat), RowIs (sgnI l t) R E r → (∀ x ∈ r, x ≤ 120) → ∀ x, x ∈ addF l R E f t r ↔ ∃ u, x = t ++ u ∧ u.length ≤ f ∧ (∀ y ∈ u, letB l.length y = true) ∧ fewI (sgnI l x) R (0, 0) ≤ E := by
  intro f
  induction f with
  | zero =>
    intro t r hr _ x
    have hone : (∃ u, x = t ++ u ∧ u.length ≤ 0 ∧ (∀ y ∈ u, letB l.length y = true) ∧ fewI (sgnI l x) R (0, 0) ≤ E) ↔ x = t ∧ fewI (sgnI l t) R (0, 0) ≤ E := by
      constructor
      · rintro ⟨u, rfl, hu, _, he⟩
        obtain rfl : u = [] := List.eq_nil_of_length_eq_zero (by omega)
        rw [List.append_nil] at he ⊢
        exact ⟨rfl, he⟩
      · rintro ⟨rfl, he⟩
        exact ⟨[], by simp, by simp, by simp, he⟩
    rw [hone, ← row_end hE hr]
    unfold addF
    by_cases hh : r = hopeL 41
    · rw [if_pos hh, hh, hope_get]
      simp
    · rw [if_neg hh]
      exact one_if
  | succ f ih =>
    intro t r hr h120 x
    unfold addF
    by_cases hh : r = hopeL 41
    · rw [if_pos hh]
      constructor
      · intro h; cases h
      · rintro ⟨u, rfl, _, _, he⟩
        obtain ⟨Q, h1, h2⟩ := sgnI_cut l t u
        rw [h1] at he
        exact absurd he (row_hope hE (hh ▸ hr) h2)
    · rw [if_neg hh, List.mem_append, List.mem_flatMap]
      have hself : (x ∈ if r.getD R.length 120 ≠ 120 then [t] else []) ↔ x = t ∧ fewI (sgnI l t) R (0, 0) ≤ E := by
        rw [← row_end hE hr]
        exact one_if
      rw [hself]
      have hkid : ∀ i : Nat, x ∈ addF l R E f (t ++ [(i : Int)]) (sendN (kidB l t i).data.toList R E r) ↔ ∃ u, x = (t ++ [(i : Int)]) ++ u ∧ u.length ≤ f ∧ (∀ y ∈ u, letB l.length y = true) ∧ fewI (sgnI l x) R (0, 0) ≤ E := fun i => by
        have hs := send_is hR hE (gap_kid l t i) hr h120
        have e : sgnI l t ++ (kidB l t i).data.toList = sgnI l (t ++ [(i : Int)]) := by rw [sgnI_snoc]; rfl
        rw [e] at hs
        exact ih _ _ hs (send_120 hr.len h120) x
      constructor
      · rintro (⟨rfl, he⟩ | ⟨i, hi, h⟩)
        · exact ⟨[], by simp, by simp, by simp, he⟩
        · obtain ⟨u, rfl, h1, h2, h3⟩ := (hkid i).1 h
          refine ⟨(i : Int) :: u, by simp, by simp; omega, fun y hy => ?_, h3⟩
          rcases List.mem_cons.1 hy with rfl | hy
          · have := List.mem_range.1 hi
            unfold letB
            simp
            omega
          · exact h2 y hy
      · rintro ⟨u, rfl, h1, h2, h3⟩
        rcases u with _ | ⟨y, u⟩
        · rw [List.append_nil] at h3 ⊢
          exact .inl ⟨rfl, h3⟩
        · have hy := h2 y (List.mem_cons_self ..)
          unfold letB at hy
          have hy2 : 0 ≤ y ∧ y < (l.length : Int) := by simpa using hy
          obtain ⟨i, rfl⟩ : ∃ i : Nat, y = i := ⟨y.toNat, by omega⟩
          refine .inr ⟨i, List.mem_range.2 (by omega), (hkid i).2 ⟨u, by simp, by simp at h1; omega, fun z hz => h2 z (List.mem_cons_of_mem _ hz), h3⟩⟩
theorem addF_nodup {l : List ByteArray} {R : By} {E : Nat} : ∀ (f : Nat) (t : List Int) (r : List Nat), (addF l R E f t r).Nodup ∧ ∀ x ∈ addF l R E f t r, ∃ u, x = t ++ u
  | 0, t, r => by
    unfold addF
    split
    · exact ⟨List.nodup_nil, by simp⟩
    · split
      · exact ⟨by simp, fun x hx => ⟨[], by simpa using hx⟩⟩
      · exact ⟨List.nodup_nil, by simp⟩
  | f + 1, t, r => by
    unfold addF
    split
    · exact ⟨List.nodup_nil, by simp⟩
    · have hpre : ∀ x ∈ (List.range l.length).flatMap (fun i : Nat => addF l R E f (t ++ [(i : Int)]) (sendN (kidB l t i).data.toList R E r)), ∃ i : Nat, ∃ u, x = t ++ (i : Int) :: u := fun x hx => by
        obtain ⟨i, _, h⟩ := List.mem_flatMap.1 hx
        obtain ⟨u, rfl⟩ := (addF_nodup f _ _).2 x h
        exact ⟨i, u, by simp⟩
      refine ⟨List.nodup_append.2 ⟨by split <;> simp, ?_, fun x hx y hy => ?_⟩, fun x hx => ?_⟩
      · unfold List.Nodup
        rw [List.pairwise_flatMap]
        refine ⟨fun i _ => (addF_nodup f _ _).1, ?_⟩
        refine (List.nodup_range (n := l.length)).imp fun {i j} hij x hx y hy e => ?_
        obtain ⟨u, hu⟩ := (addF_nodup f _ _).2 x hx
        obtain ⟨v, hv⟩ := (addF_nodup f _ _).2 y hy
        rw [e, hv] at hu
        simp only [List.append_assoc, List.singleton_append, List.append_cancel_left_eq, List.cons.injEq] at hu
        exact hij (by omega)
      · have hx : x = t := by
          split at hx
          · simpa using hx
          · cases hx
        obtain ⟨i, u, rfl⟩ := hpre y hy
        rw [hx]
        intro e
        have := congrArg List.length e
        simp at this
      · rcases List.mem_append.1 hx with hx | hx
        · split at hx
          · exact ⟨[], by simpa using hx⟩
          · cases hx
        · obtain ⟨i, u, rfl⟩ := hpre x hx
          exact ⟨_, rfl⟩
/-- **What a list of texts holds.** -/
theorem texts_iff {l : List ByteArray} {R : By} {E K : Nat} {ts : List (List Int)} (hR : R.length ≤ 40) (hE : E < 120) (h : IsTexts l R E K ts) (x : List Int) : x ∈ ts ↔ x.length ≤ K ∧ (∀ y ∈ x, letB l.length y = true) ∧ fewI (sgnI l x) R (0, 0) ≤ E := by
  obtain ⟨h1, h2⟩ := start_is (R := R) hR hE
  rw [h.1.mem_iff, addF_iff hR hE K [] (startN R E) h1 h2 x]
  constructor
  · rintro ⟨u, rfl, h⟩
    exact h
  · intro h
    exact ⟨x, rfl, h⟩
theorem texts_nodup {l : List ByteArray} {R : By} {E K : Nat} {ts : List (List Int)} (h : IsTexts l R E K ts) : ts.Nodup := h.1.nodup_iff.2 (addF_nodup K [] _).1
end Go.Proofs.YtonekgefegfapaaGreat

namespace Go.Proofs.YtonekgefegfapaaGreat
open Go.RowKit

/-- A valid code, and a text of it. -/
def readyB (l : List ByteArray) (t : List Int) : Bool := thinB l && (decide (codeE l = 0) && (decide (t.length ≤ 5) && t.all (letB l.length)))
theorem readyB_ok {l : List ByteArray} {t : List Int} (h : readyB l t = true) : l.length ≤ 6 ∧ codeB l = true ∧ codeE l = 0 ∧ (∀ s ∈ l, s.size ≤ 4) ∧ t.length ≤ 5 ∧ t.all (letB l.length) = true := by
  unfold readyB at h
  simp only [Bool.and_eq_true, decide_eq_true_eq] at h
  obtain ⟨_, h1, h2, h3⟩ := h
  exact ⟨(codeE_len h1).1, (codeE_len h1).2, h1, codeB_four (codeE_len h1).2, h2, h3⟩
set_option maxRecDepth 100000 in
set_option maxHeartbeats 1500000 in
theorem ready_any (v u : Value) (l : List ByteArray) (t : List Int) (w : World) (hl : RowsAny w v 1 sc l) (ht : RowsAny w u 1 ic t) : Calls Tryz.prog 45 #[.agg #[v], u] w fun e w' => e = .returned (.bool (readyB l t)) ∧ Below w.heap.size w w' := by
  obtain ⟨A, cap, hv, -, -⟩ := ht.form
  subst hv
  have HL := Lib.hid hl
  have HT := Lib.hid ht
  clear hl ht
  cases hth : thinB l with
  | false =>
    have HTh := Lib.hid (show (thinB l && decide ((⟨#[]⟩ : ByteArray).size ≤ 60)) = false by rw [hth]; rfl)
    have Hr := Lib.hid (show readyB l t = false by unfold readyB; rw [hth]; rfl)
    clear hth
    go_enter Tryz.func45, Tryz.ntmps45
    have B1 := Box.new (w := w) (t := 24) (cs := #[v]) rfl
    have c1 := fun i => B1.cell i
    go_wp2_with fail
    refine (Thin_any v l ⟨#[]⟩ _ (HL.out.kept (up_alloc up0 _))).mono ?_
    rintro e w1 ⟨rfl, hb1⟩
    rw [HTh.out]
    go_wp2_with fail
    go_ret
    exact ⟨ret_bool Hr.out.symm, up_later (up_alloc up0 _) hb1⟩
  | true =>
    have HTh := Lib.hid (show (thinB l && decide ((⟨#[]⟩ : ByteArray).size ≤ 60)) = true by rw [hth]; rfl)
    have hl9 : l.length ≤ 1000 := by
      have h := hth
      unfold thinB at h
      simp at h
      omega
    have Hth := Lib.hid hth
    clear hth
    obtain ⟨C, hC⟩ : ∃ C, codeE l = C := ⟨_, rfl⟩
    have HC := Lib.hid hC
    by_cases hC0 : C = 0
    case neg =>
      have e1 : (C == 0) = false := beq_eq_false_iff_ne.2 hC0
      have Hr := Lib.hid (show readyB l t = false by unfold readyB; rw [hC, decide_eq_false hC0, Bool.false_and, Bool.and_false])
      clear hC hC0
      go_enter Tryz.func45, Tryz.ntmps45
      have B1 := Box.new (w := w) (t := 24) (cs := #[v]) rfl
      have c1 := fun i => B1.cell i
      go_wp2_with fail
      refine (Thin_any v l ⟨#[]⟩ _ (HL.out.kept (up_alloc up0 _))).mono ?_
      rintro e w1 ⟨rfl, hb1⟩
      rw [HTh.out]
      have hB1 := up_later (up_alloc up0 _) hb1
      have B1 := B1.kept hb1
      have c1 := fun i => B1.cell i
      clear hb1
      go_wp2_with fail
      refine (fault_any v l _ (HL.out.kept hB1)).mono ?_
      rintro e w2 ⟨rfl, hb2⟩
      rw [HC.out]
      go_wp2_with fail
      go_ret
      exact ⟨ret_bool Hr.out.symm, up_later hB1 hb2⟩
    subst hC0
    by_cases h5 : 5 < t.length
    · have h5' : ¬ (t.length : Int) ≤ 5 := by omega
      have Hr := Lib.hid (show readyB l t = false by unfold readyB; rw [decide_eq_false (show ¬ t.length ≤ 5 by omega), Bool.false_and, Bool.and_false, Bool.and_false])
      clear hC
      go_enter Tryz.func45, Tryz.ntmps45
      have B1 := Box.new (w := w) (t := 24) (cs := #[v]) rfl
      have c1 := fun i => B1.cell i
      go_wp2_with fail
      refine (Thin_any v l ⟨#[]⟩ _ (HL.out.kept (up_alloc up0 _))).mono ?_
      rintro e w1 ⟨rfl, hb1⟩
      rw [HTh.out]
      have hB1 := up_later (up_alloc up0 _) hb1
      have B1 := B1.kept hb1
      have c1 := fun i => B1.cell i
      clear hb1
      go_wp2_with fail
      refine (fault_any v l _ (HL.out.kept hB1)).mono ?_
      rintro e w2 ⟨rfl, hb2⟩
      rw [HC.out]
      go_wp2_with fail
      go_ret
      exact ⟨ret_bool Hr.out.symm, up_later hB1 hb2⟩
    · have h5' : (t.length : Int) ≤ 5 := by omega
      have Hr := Lib.hid (show readyB l t = t.all (letB l.length) by unfold readyB; rw [Hth.out, hC, decide_eq_true (show t.length ≤ 5 by omega)]; rfl)
      clear hC
      go_enter Tryz.func45, Tryz.ntmps45
      have B1 := Box.new (w := w) (t := 24) (cs := #[v]) rfl
      have c1 := fun i => B1.cell i
      go_wp2_with fail
      refine (Thin_any v l ⟨#[]⟩ _ (HL.out.kept (up_alloc up0 _))).mono ?_
      rintro e w1 ⟨rfl, hb1⟩
      rw [HTh.out]
      have hB1 := up_later (up_alloc up0 _) hb1
      have B1 := B1.kept hb1
      have c1 := fun i => B1.cell i
      clear hb1
      go_wp2_with fail
      refine (fault_any v l _ (HL.out.kept hB1)).mono ?_
      rintro e w2 ⟨rfl, hb2⟩
      rw [HC.out]
      have hB2 := up_later hB1 hb2
      have B1 := B1.kept hb2
      have c1 := fun i => B1.cell i
      clear hb2 hB1
      go_wp2_with fail
      refine (IsText_any v _ l t _ ((HL.out.kept hB2).rows hl9) (HT.out.kept hB2)).mono ?_
      rintro e w3 ⟨rfl, hb3⟩
      have hB3 := up_later hB2 hb3
      clear hb3 hB2
      rw [← Hr.out]
      go_wp2_with fail
      go_ret
      exact ⟨rfl, hB3⟩
theorem mem_take {α : Type} {l : List α} {k : Nat} {x y : α} (h : y ∉ l.take k) (hx : l[k]? = some x) (hxy : ¬ x = y) : y ∉ l.take (k + 1) := by
  rw [List.take_add_one, hx]
  simp only [Option.toList_some, List.mem_append, List.mem_singleton, not_or]
  exact ⟨h, fun e => hxy e.symm⟩
set_option maxRecDepth 100000 in
set_option maxHeartbeats 1500000 in
theorem has_any (v u : Value) (ps : List (Value × List Int)) (t : List Int) (w : World) (hp : TextsAny w v ps) (ht : RowsAny w u 1 ic t) : Calls Tryz.prog 47 #[v, u] w fun e w' => e = .returned (.bool (decide (t ∈ ps.map (·.2)))) ∧ Below w.heap.size w w' := by
  obtain ⟨A, cap, hv, hca, hcm⟩ := hp.1.form
  subst hv
  have hla : ps.length ≤ 9223372036854775807 := Nat.le_trans hca hcm
  have HP := Lib.hid hp
  have HT := Lib.hid ht
  clear hp ht hca hcm
  go_enter Tryz.func47, Tryz.ntmps47
  go_wp2_with fail
  go_loopw [5] (fun i wr => ∃ k : Nat, k ≤ ps.length ∧ i = iv k ∧ Hid (t ∉ (ps.map (·.2)).take k) ∧ Below w.heap.size w wr) (fun i _ => ps.length - (intOf i).toNat)
  case atStart => exact ⟨0, by omega, rfl, Lib.hid (by simp), Below.refl _ _⟩
  case round =>
    obtain ⟨k, hk, rfl, HN, hB⟩ := hrel
    by_cases hlt : k < ps.length
    · have hlt' : (k : Int) < (ps.length : Int) := by omega
      have k0 : (0 : Int) ≤ (k : Int) := by omega
      obtain ⟨⟨xv, x⟩, hx⟩ : ∃ x, ps[k]? = some x := ⟨_, List.getElem?_eq_getElem hlt⟩
      obtain ⟨b, off, rfl, hb, q0, r0⟩ := (HP.out.kept hB).at hx
      obtain ⟨xA, xc, hxv, -, -⟩ := r0.form
      simp only at hxv q0
      subst hxv
      have Hx := Lib.hid (show (ps.map (·.2))[k]? = some x by rw [List.getElem?_map, hx]; rfl)
      have R0 := Lib.hid r0
      clear hx r0
      obtain ⟨D, hD⟩ : ∃ D, decide (x = t) = D := ⟨_, rfl⟩
      have HD := Lib.hid hD
      clear hD
      go_wp2_with fail
      refine (Same_any _ u x t _ R0.out (HT.out.kept hB)).mono ?_
      rintro e w1 ⟨rfl, hb1⟩
      rw [HD.out]
      have hB1 := up_later hB hb1
      clear hb1
      cases D with
      | true =>
        have Hr := Lib.hid (show decide (t ∈ ps.map (·.2)) = true from decide_eq_true (by rw [← of_decide_eq_true HD.out]; exact List.mem_of_getElem? Hx.out))
        go_wp2_with fail
        go_ret
        exact ⟨ret_bool Hr.out.symm, hB1⟩
      | false =>
        have HN2 := Lib.hid (mem_take HN.out Hx.out (of_decide_eq_false HD.out))
        go_wp2_with fail
        go_roundw
        case rel => exact ⟨k + 1, by omega, by go_num, HN2, hB1⟩
        case measure => simp [intOf]; omega
    · have hlt' : ¬ (k : Int) < (ps.length : Int) := by omega
      have Hr := Lib.hid (show decide (t ∈ ps.map (·.2)) = false from decide_eq_false (by
        have h := HN.out
        rwa [List.take_of_length_le (by rw [List.length_map]; omega)] at h))
      go_wp2_with fail
      go_ret
      exact ⟨ret_bool Hr.out.symm, hB⟩
/-! ### The signs of a text are its own -/
def flsL (l : List ByteArray) (x : Int) : By := (l.getD x.toNat ⟨#[]⟩).data.toList
theorem sgnI_cons (l : List ByteArray) (x : Int) : ∀ t : List Int, sgnI l (x :: t) = flsL l x ++ t.flatMap fun y => 32 :: flsL l y := by
  have h : ∀ n (t : List Int), t.length = n → sgnI l (x :: t) = flsL l x ++ t.flatMap fun y => 32 :: flsL l y := by
    intro n
    induction n with
    | zero =>
      intro t ht
      rw [List.eq_nil_of_length_eq_zero ht]
      have := sgnI_snoc l [] x
      rw [List.nil_append, sgnI_nil, List.nil_append] at this
      rw [this]
      simp [addS, flsL]
    | succ n ih =>
      intro t ht
      have hne : t ≠ [] := fun e => by subst e; simp at ht
      have e : t = t.dropLast ++ [t.getLast hne] := (List.dropLast_concat_getLast hne).symm
      rw [e, ← List.cons_append, sgnI_snoc, ih t.dropLast (by rw [List.length_dropLast, ht]; rfl), List.flatMap_append, List.append_assoc]
      congr 2
      simp [addS, flsL]
  exact fun t => h _ t rfl
theorem split_gap {a b c d : By} (ha : 32 ∉ a) (hb : 32 ∉ b) (hc : c = [] ∨ ∃ t, c = 32 :: t) (hd : d = [] ∨ ∃ t, d = 32 :: t) (h : a ++ c = b ++ d) : a = b ∧ c = d := by
  induction a generalizing b with
  | nil =>
    rcases b with _ | ⟨y, b⟩
    · exact ⟨rfl, h⟩
    · rcases hc with rfl | ⟨t, rfl⟩
      · simp at h
      · simp only [List.nil_append, List.cons_append, List.cons.injEq] at h
        exact absurd (by rw [h.1]; exact List.mem_cons_self ..) hb
  | cons x a ih =>
    rcases b with _ | ⟨y, b⟩
    · rcases hd with rfl | ⟨t, rfl⟩
      · simp at h
      · simp only [List.nil_append, List.cons_append, List.cons.injEq] at h
        exact absurd (by rw [h.1]; exact List.mem_cons_self ..) ha
    · simp only [List.cons_append, List.cons.injEq] at h
      obtain ⟨h1, h2⟩ := ih (fun q => ha (List.mem_cons_of_mem _ q)) (fun q => hb (List.mem_cons_of_mem _ q)) h.2
      exact ⟨by rw [h.1, h1], h2⟩
theorem fls_at {l : List ByteArray} {x : Int} (h : letB l.length x = true) : ∃ s, l[x.toNat]? = some s ∧ flsL l x = s.data.toList ∧ x = (x.toNat : Int) := by
  unfold letB at h
  have h2 : 0 ≤ x ∧ x < (l.length : Int) := by simpa using h
  obtain ⟨s, hs⟩ : ∃ s, l[x.toNat]? = some s := ⟨_, List.getElem?_eq_getElem (by omega)⟩
  exact ⟨s, hs, by unfold flsL; rw [List.getD_eq_getElem?_getD, hs]; rfl, by omega⟩
theorem fls_ok {l : List ByteArray} (hc : codeB l = true) {x : Int} (h : letB l.length x = true) : 32 ∉ flsL l x ∧ flsL l x ≠ [] := by
  obtain ⟨s, hs, he, _⟩ := fls_at h
  unfold codeB at hc
  simp only [Bool.and_eq_true] at hc
  have h1 := List.all_eq_true.1 hc.2.1 s (List.mem_of_getElem? hs)
  have h2 := List.all_eq_true.1 hc.2.2.1 s (List.mem_of_getElem? hs)
  rw [he]
  refine ⟨fun h32 => ?_, fun e => ?_⟩
  · unfold flashB at h2
    have := List.all_eq_true.1 h2 32 h32
    revert this
    decide
  · unfold fitB at h1
    rw [Lib.size_eq, e] at h1
    simp at h1
theorem fls_inj {l : List ByteArray} (hc : codeB l = true) {x y : Int} (hx : letB l.length x = true) (hy : letB l.length y = true) (h : flsL l x = flsL l y) : x = y := by
  obtain ⟨s, hs, he, ex⟩ := fls_at hx
  obtain ⟨t, ht, he2, ey⟩ := fls_at hy
  rw [he, he2] at h
  have est : s = t := ByteArray.ext (Array.toList_inj.1 h)
  subst est
  unfold codeB at hc
  simp only [Bool.and_eq_true, decide_eq_true_eq] at hc
  have hn := nodup_iff_at.1 hc.2.2.2
  have : x.toNat = y.toNat := by
    rcases Nat.lt_trichotomy x.toNat y.toNat with h1 | h1 | h1
    · exact absurd ht (hn _ _ _ h1 hs)
    · exact h1
    · exact absurd hs (hn _ _ _ h1 ht)
  omega
theorem tail_gap (l : List ByteArray) (t : List Int) : (t.flatMap fun y => 32 :: flsL l y) = [] ∨ ∃ r, (t.flatMap fun y => 32 :: flsL l y) = 32 :: r := by
  rcases t with _ | ⟨x, t⟩
  · exact .inl rfl
  · exact .inr ⟨_, by rw [List.flatMap_cons, List.cons_append]⟩
theorem tail_inj {l : List ByteArray} (hc : codeB l = true) : ∀ (t u : List Int), (∀ x ∈ t, letB l.length x = true) → (∀ x ∈ u, letB l.length x = true) → (t.flatMap fun y => 32 :: flsL l y) = (u.flatMap fun y => 32 :: flsL l y) → t = u
  | [], [], _, _, _ => rfl
  | [], y :: u, _, _, h => by simp at h
  | x :: t, [], _, _, h => by simp at h
  | x :: t, y :: u, ht, hu, h => by
    simp only [List.flatMap_cons, List.cons_append, List.cons.injEq, true_and] at h
    obtain ⟨h1, h2⟩ := split_gap (fls_ok hc (ht x (List.mem_cons_self ..))).1 (fls_ok hc (hu y (List.mem_cons_self ..))).1 (tail_gap l t) (tail_gap l u) h
    rw [fls_inj hc (ht x (List.mem_cons_self ..)) (hu y (List.mem_cons_self ..)) h1, tail_inj hc t u (fun z hz => ht z (List.mem_cons_of_mem _ hz)) (fun z hz => hu z (List.mem_cons_of_mem _ hz)) h2]
/-- **Each text has signs of its own.** -/
theorem sgn_inj {l : List ByteArray} (hc : codeB l = true) {t u : List Int} (ht : ∀ x ∈ t, letB l.length x = true) (hu : ∀ x ∈ u, letB l.length x = true) (h : sgnI l t = sgnI l u) : t = u := by
  rcases t with _ | ⟨x, t⟩
  · rcases u with _ | ⟨y, u⟩
    · rfl
    · rw [sgnI_nil, sgnI_cons] at h
      exact absurd (List.append_eq_nil_iff.1 h.symm).1 (fls_ok hc (hu y (List.mem_cons_self ..))).2
  · rcases u with _ | ⟨y, u⟩
    · rw [sgnI_nil, sgnI_cons] at h
      exact absurd (List.append_eq_nil_iff.1 h).1 (fls_ok hc (ht x (List.mem_cons_self ..))).2
    · rw [sgnI_cons, sgnI_cons] at h
      obtain ⟨h1, h2⟩ := split_gap (fls_ok hc (ht x (List.mem_cons_self ..))).1 (fls_ok hc (hu y (List.mem_cons_self ..))).1 (tail_gap l t) (tail_gap l u) h
      rw [fls_inj hc (ht x (List.mem_cons_self ..)) (hu y (List.mem_cons_self ..)) h1, tail_inj hc t u (fun z hz => ht z (List.mem_cons_of_mem _ hz)) (fun z hz => hu z (List.mem_cons_of_mem _ hz)) h2]
end Go.Proofs.YtonekgefegfapaaGreat

namespace Go.Proofs.YtonekgefegfapaaGreat
open Go.RowKit

/-- Errors less than none: the signs themselves. -/
theorem few_none {S R : By} : fewI S R (0, 0) ≤ 0 ↔ S = R := by
  constructor
  · intro h
    have := few_zero (S := S) (R := R) (leftN S R (0, 0)) 0 0 (Nat.le_refl _) (Nat.zero_le _) (Nat.zero_le _) (by omega)
    simpa using this
  · rintro rfl
    rw [few_same S S.length 0 (by omega)]
    exact Nat.le_refl _
theorem sgn_all {l : List ByteArray} (hc : codeB l = true) {t : List Int} (ht : ∀ x ∈ t, letB l.length x = true) : (sgnI l t).all signB = true := by
  have hf : ∀ x, letB l.length x = true → (flsL l x).all signB = true := fun x hx => by
    obtain ⟨s, hs, he, _⟩ := fls_at hx
    have h := hc
    unfold codeB at h
    simp only [Bool.and_eq_true] at h
    have h2 := List.all_eq_true.1 h.2.2.1 s (List.mem_of_getElem? hs)
    rw [he, List.all_eq_true]
    intro c hcm
    unfold flashB at h2
    rcases (flash_iff c).1 (List.all_eq_true.1 h2 c hcm) with rfl | rfl
    · exact (signB_iff _).2 (.inl rfl)
    · exact (signB_iff _).2 (.inr (.inl rfl))
  rcases t with _ | ⟨x, t⟩
  · rfl
  · rw [sgnI_cons, List.all_append, hf x (ht x (List.mem_cons_self ..)), Bool.true_and, List.all_eq_true]
    intro c hcm
    obtain ⟨y, hy, hcy⟩ := List.mem_flatMap.1 hcm
    rcases List.mem_cons.1 hcy with rfl | hcy
    · exact (signB_iff _).2 (.inr (.inr rfl))
    · exact List.all_eq_true.1 (hf y (ht y (List.mem_cons_of_mem _ hy))) c hcy
theorem sgn_len {l : List ByteArray} (h4 : ∀ s ∈ l, s.size ≤ 4) {t : List Int} (h5 : t.length ≤ 5) : (sgnI l t).length ≤ 25 := by
  have := sgnF_len h4 t t.length
  unfold sgnI
  omega
theorem signs_one {r : ByteArray} (h : r.size ≤ 40) (ha : r.data.toList.all signB = true) : signsE [r] = 0 := by
  unfold signsE
  simp only [List.all_cons, List.all_nil, Bool.and_true]
  rw [if_neg (by simp; omega), ha]
  rfl
theorem textsE_ok {l : List ByteArray} {r : ByteArray} {E K : Int} (h1 : codeE l = 0) (h2 : signsE [r] = 0) (h3 : 0 ≤ E ∧ E ≤ 3) (h4 : 0 ≤ K ∧ K ≤ 5) : textsE l r E K = 0 := by
  unfold textsE
  rw [if_neg (by rw [h1]; simp), if_neg (by rw [h2]; simp), if_neg]
  unfold rangeB
  rw [decide_eq_false (by omega), decide_eq_false (by omega), decide_eq_false (by omega), decide_eq_false (by omega)]
  simp
/-- The texts of a text's own signs. -/
theorem own_texts {l : List ByteArray} (hc : codeB l = true) {t : List Int} (h5 : t.length ≤ 5) (ht : ∀ x ∈ t, letB l.length x = true) (h40 : (sgnI l t).length ≤ 40) {ts : List (List Int)} (h : IsTexts l (sgnI l t) 0 5 ts) : ts = [t] := by
  have hi : ∀ x, x ∈ ts ↔ x = t := fun x => by
    rw [texts_iff h40 (by omega) h x, few_none]
    constructor
    · rintro ⟨_, h2, h3⟩
      exact sgn_inj hc h2 ht h3
    · rintro rfl
      exact ⟨h5, ht, rfl⟩
  have hn := texts_nodup h
  rcases ts with _ | ⟨a, _ | ⟨b, r⟩⟩
  · have := (hi t).2 rfl
    cases this
  · rw [(hi a).1 (List.mem_cons_self ..)]
  · exfalso
    have h1 := (hi a).1 (List.mem_cons_self ..)
    have h2 := (hi b).1 (List.mem_cons_of_mem _ (List.mem_cons_self ..))
    rw [h1, h2] at hn
    simp at hn
def Fact.code (l : List ByteArray) : Fact := ⟨fun v w => ∃ u, v = .agg #[u] ∧ RowsAny w u 1 sc l, fun _ _ _ ⟨u, h, h1⟩ hb => ⟨u, h, h1.kept hb⟩, false, fun _ _ h => by cases h⟩
/-- Texts that a call hands back, with its error; texts alone. -/
def Fact.txts (E : Int) (P : List (List Int) → Prop) : Fact := ⟨fun v w => ∃ (A : Option Addr) (c : Nat) (ps : List (Value × List Int)), v = .tuple #[.slice A ps.length c, iv E] ∧ TextsAny w (.slice A ps.length c) ps ∧ P (ps.map (·.2)), fun _ _ _ h hb => by
  obtain ⟨A, c, ps, h, h1, h2⟩ := h
  exact ⟨A, c, ps, h, h1.kept hb, h2⟩, false, fun _ _ h => by cases h⟩
def Fact.txs (P : List (List Int) → Prop) : Fact := ⟨fun v w => ∃ (A : Option Addr) (c : Nat) (ps : List (Value × List Int)), v = .slice A ps.length c ∧ TextsAny w (.slice A ps.length c) ps ∧ P (ps.map (·.2)), fun _ _ _ h hb => by
  obtain ⟨A, c, ps, h, h1, h2⟩ := h
  exact ⟨A, c, ps, h, h1.kept hb, h2⟩, false, fun _ _ h => by cases h⟩
set_option maxRecDepth 100000 in
set_option maxHeartbeats 3000000 in
theorem own_law (v : Value) (l : List ByteArray) (u : Value) (t : List Int) (w : World) (hl : RowsAny w v 1 sc l) (ht : RowsAny w u 1 ic t) : Calls Tryz.prog 17 #[.agg #[v], u] w fun e w' => e = .returned (.bool true) ∧ Below w.heap.size w w' := by
  obtain ⟨A, cap, hv, -, -⟩ := ht.form
  subst hv
  have HL := Lib.hid hl
  have HT := Lib.hid ht
  clear hl ht
  cases hrd : readyB l t with
  | false =>
    have HRd := Lib.hid hrd
    clear hrd
    go_enter Tryz.func17, Tryz.ntmps17
    have B1 := Box.new (w := w) (t := 24) (cs := #[v]) rfl
    have c1 := fun i => B1.cell i
    go_wp2_with fail
    refine (ready_any v _ l t _ (HL.out.kept (up_alloc up0 _)) (HT.out.kept (up_alloc up0 _))).mono ?_
    rintro e w1 ⟨rfl, hb1⟩
    rw [HRd.out]
    have hB1 := up_later (up_alloc up0 _) hb1
    have B1 := B1.kept hb1
    clear hb1 c1
    go_wp2_with fail
    refine (awake_any _).mono ?_
    rintro e w9 ⟨rfl, hb9⟩
    go_wp2_with fail
    go_ret
    exact ⟨rfl, up_later hB1 hb9⟩
  | true =>
    have HRd := Lib.hid hrd
    obtain ⟨h6, hcb, hce, h4, h5, hal⟩ := readyB_ok hrd
    have hal := List.all_eq_true.1 hal
    have hsl := sgn_len h4 h5
    obtain ⟨S, hS⟩ : ∃ S : ByteArray, ⟨(sgnI l t).toArray⟩ = S := ⟨_, rfl⟩
    have hSd : S.data.toList = sgnI l t := by rw [← hS]
    have HS := Lib.hid hS
    have HTE := Lib.hid (textsE_ok (l := l) (r := S) (E := 0) (K := 5) hce (signs_one (by rw [Lib.size_eq, hSd]; omega) (by rw [hSd]; exact sgn_all hcb hal)) (by omega) (by omega))
    have HOwn : Hid (∀ ts, IsTexts l S.data.toList 0 5 ts → ts = [t]) := Lib.hid fun ts h => by
      rw [hSd] at h
      exact own_texts hcb h5 hal (by omega) h
    have H4 := Lib.hid h4
    have HAl := Lib.hid hal
    clear hrd hcb hce h4 hal hsl hS hSd
    go_enter Tryz.func17, Tryz.ntmps17
    have B1 := Box.new (w := w) (t := 24) (cs := #[v]) rfl
    have c1 := fun i => B1.cell i
    go_wp2_with fail
    refine (ready_any v _ l t _ (HL.out.kept (up_alloc up0 _)) (HT.out.kept (up_alloc up0 _))).mono ?_
    rintro e w1 ⟨rfl, hb1⟩
    rw [HRd.out]
    have hB1 := up_later (up_alloc up0 _) hb1
    have B1 := B1.kept hb1
    clear hb1 c1
    have HB1 := Lib.hid hB1
    clear hB1
    go_wp2_with fail
    apply wp_region_by 11 [(Fact.eq _), (Fact.code l), (Fact.eq _), (Fact.eq _), (Fact.eq (.string S)), (Fact.txts 0 (fun ts => ts = [t])), (Fact.txts 0 (fun ts => ts = [t])), (Fact.txs (fun ts => ts = [t])), (Fact.eq (iv 0)), (Fact.txs (fun ts => ts = [t])), (Fact.eq (iv 0))]
    case hm => kernel_rfl
    case hB => kernel_rfl
    case hA => (intro vs; simp only [List.take_succ_cons, List.take_zero, putAll, if_true, Act.put, List.setIfInBounds_toArray, List.set_cons_zero, List.set_cons_succ]; exact rfl)
    case hstep =>
      intro vs
      refine And.intro (fun w hw hd => ?_) ?_
      · refine ite_yes rfl ?_
        have c_B1 := fun i => (B1.kept hw).cell i
        simp only [Gives]
        go_simp
        exact ⟨Below.refl _ _, rfl, fun h => by cases h⟩
      refine And.intro (fun w hw hd => ?_) ?_
      · have d0 := hd 0 (by decide) rfl
        change vs 0 = _ at d0
        refine ite_yes rfl ?_
        simp only [Gives]
        go_simp
        refine (Code_any v l w ((HL.out.kept (up_later HB1.out hw)).rows (by omega))).mono ?_
        rintro e w7 ⟨u2, rfl, hu, hb⟩
        exact ⟨_, rfl, hb, ⟨u2, rfl, hu⟩, fun h => by cases h⟩
      refine And.intro (fun w hw hd => ?_) ?_
      · refine ite_yes rfl ?_
        have c_B1 := fun i => (B1.kept hw).cell i
        simp only [Gives]
        go_simp
        exact ⟨Below.refl _ _, rfl, fun h => by cases h⟩
      refine And.intro (fun w hw hd => ?_) ?_
      · refine ite_yes rfl ?_
        simp only [Gives]
        go_simp
        exact ⟨Below.refl _ _, rfl, fun h => by cases h⟩
      refine And.intro (fun w hw hd => ?_) ?_
      · have d2 := hd 2 (by decide) rfl
        change vs 2 = _ at d2
        have d3 := hd 3 (by decide) rfl
        change vs 3 = _ at d3
        refine ite_yes rfl ?_
        simp only [Gives]
        go_simp
        refine (Signs_any v _ l t w ((HL.out.kept (up_later HB1.out hw)).rows (by omega)) ((HT.out.kept (up_later HB1.out hw)).rows (by omega)) H4.out HAl.out).mono ?_
        rintro e w7 ⟨rfl, hb⟩
        rw [HS.out]
        exact ⟨_, rfl, hb, rfl, fun h => by cases h⟩
      refine And.intro (fun w hw hd => ?_) ?_
      · have d1 := hd 1 (by decide) rfl
        obtain ⟨u2, d1, R1⟩ := d1
        have d4 := hd 4 (by decide) rfl
        change vs 4 = _ at d4
        refine ite_yes rfl ?_
        simp only [Gives]
        go_simp
        refine (Texts_any u2 l S 0 5 w R1).mono ?_
        rintro e w7 ⟨u5, ps, rfl, hp, hi, -, hb⟩
        rw [HTE.out]
        obtain ⟨A5, c5, hf, -, -⟩ := hp.1.form
        subst hf
        exact ⟨_, rfl, hb, ⟨A5, c5, ps, rfl, hp, HOwn.out _ (hi HTE.out)⟩, fun h => by cases h⟩
      refine And.intro (fun w hw hd => ?_) ?_
      · have d5 := hd 5 (by decide) rfl
        obtain ⟨A5, c5, ps5, d5, T5, P5⟩ := d5
        refine ite_yes rfl ?_
        simp only [Gives]
        go_simp
        exact ⟨Below.refl _ _, ⟨A5, c5, ps5, rfl, T5, P5⟩, fun h => by cases h⟩
      refine And.intro (fun w hw hd => ?_) ?_
      · have d6 := hd 6 (by decide) rfl
        obtain ⟨A6, c6, ps6, d6, T6, P6⟩ := d6
        refine ite_yes rfl ?_
        simp only [Gives]
        go_simp
        exact ⟨Below.refl _ _, ⟨A6, c6, ps6, rfl, T6, P6⟩, fun h => by cases h⟩
      refine And.intro (fun w hw hd => ?_) ?_
      · have d6 := hd 6 (by decide) rfl
        obtain ⟨A6, c6, ps6, d6, T6, P6⟩ := d6
        refine ite_yes rfl ?_
        simp only [Gives]
        go_simp
        exact ⟨Below.refl _ _, rfl, fun h => by cases h⟩
      refine And.intro (fun w hw hd => ?_) ?_
      · have d7 := hd 7 (by decide) rfl
        obtain ⟨A7, c7, ps7, d7, T7, P7⟩ := d7
        refine ite_yes rfl ?_
        simp only [Gives]
        go_simp
        exact ⟨Below.refl _ _, ⟨A7, c7, ps7, rfl, T7, P7⟩, fun h => by cases h⟩
      refine And.intro (fun w hw hd => ?_) ?_
      · have d8 := hd 8 (by decide) rfl
        change vs 8 = _ at d8
        refine ite_yes rfl ?_
        simp only [Gives]
        go_simp
        exact ⟨Below.refl _ _, rfl, fun h => by cases h⟩
      exact trivial
    intro vs wt hw hd hne hlo
    have d0 := hd 0 (by decide)
    change vs 0 = _ at d0
    have d1 := hd 1 (by decide)
    obtain ⟨u2, d1, R1⟩ := d1
    have d2 := hd 2 (by decide)
    change vs 2 = _ at d2
    have d3 := hd 3 (by decide)
    change vs 3 = _ at d3
    have d4 := hd 4 (by decide)
    change vs 4 = _ at d4
    have d5 := hd 5 (by decide)
    obtain ⟨A5, c5, ps5, d5, T5, P5⟩ := d5
    have d6 := hd 6 (by decide)
    obtain ⟨A6, c6, ps6, d6, T6, P6⟩ := d6
    have d7 := hd 7 (by decide)
    obtain ⟨A7, c7, ps7, d7, T7, P7⟩ := d7
    have d8 := hd 8 (by decide)
    change vs 8 = _ at d8
    have d9 := hd 9 (by decide)
    obtain ⟨A9, c9, ps9, d9, T9, P9⟩ := d9
    have d10 := hd 10 (by decide)
    change vs 10 = _ at d10
    simp only [d0, d2, d3, List.drop_succ_cons, List.drop_nil]
    have B1 := B1.kept hw
    have c_B1 := fun i => B1.cell i
    have f_B1 := fun i => B1.free i
    clear hd hne hlo d0 d2 d3
    simp only [d9, d10]
    have HB2 := Lib.hid (up_later HB1.out hw)
    have HT9 := Lib.hid T9
    have HP9 := Lib.hid P9
    clear d1 R1 d4 d5 T5 P5 d6 T6 P6 d7 T7 P7 d8 d9 T9 P9 d10 B1 c_B1 f_B1 hw
    go_wp2_with fail
    have hbw := up_alloc (up0 (w := wt)) (.cells #[.slice A t.length cap] 25)
    refine (same_any _ _ ps9 [(.slice A t.length cap, t)] _ (HT9.out.kept hbw) ⟨rows_any (lit_rows (l := [((.slice A t.length cap : Value), t)]) (cells := pc) (Box.new rfl) (fun _ => rfl) (by simp)), fun p hp => ?_⟩).mono ?_
    · rw [List.mem_singleton.1 hp]
      exact HT.out.kept (up_later HB2.out hbw)
    rintro e w2 ⟨rfl, hb2⟩
    rw [HP9.out, show decide (([t] : List (List Int)) = [((.slice A t.length cap : Value), t)].map (·.2)) = true from decide_eq_true rfl]
    have hB3 := up_later HB2.out (up_later hbw hb2)
    clear hb2 hbw
    go_wp2_with fail
    refine (awake_any _).mono ?_
    rintro e w9 ⟨rfl, hb9⟩
    go_wp2_with fail
    go_ret
    exact ⟨rfl, up_later hB3 hb9⟩
end Go.Proofs.YtonekgefegfapaaGreat

namespace Go.Proofs.YtonekgefegfapaaGreat
open Go.RowKit

theorem texts_sub {l : List ByteArray} {R : By} {E E' K : Nat} {ts ts' : List (List Int)} (hR : R.length ≤ 40) (hE : E' < 120) (hle : E ≤ E') (h : IsTexts l R E K ts) (h' : IsTexts l R E' K ts') : ∀ x ∈ ts, x ∈ ts' := fun x hx => by
  rw [texts_iff hR (by omega) h] at hx
  rw [texts_iff hR hE h']
  exact ⟨hx.1, hx.2.1, by omega⟩
theorem signs_one' {r : ByteArray} (h : signsE [r, ⟨#[]⟩] = 0) : r.size ≤ 40 ∧ True ∧ r.data.toList.all signB = true ∧ True := by
  rw [signs_two] at h
  split at h
  · cases h
  · rename_i h1
    split at h
    · rename_i h2
      rw [List.all_append, Bool.and_eq_true] at h2
      exact ⟨by omega, trivial, h2.1, trivial⟩
    · cases h
theorem ltT_asymm {a b : List Int} (h : ltT a b) : ¬ ltT b a := fun h2 => ltT_irrefl a (ltT_trans h h2)
/-- With one letter more the texts go on. -/
theorem texts_pre {l : List ByteArray} {R : By} {E K : Nat} {ts ts' : List (List Int)} (hR : R.length ≤ 40) (hE : E < 120) (h : IsTexts l R E K ts) (h' : IsTexts l R E (K + 1) ts') : ∃ r, ts' = ts ++ r := by
  have hp : (ts'.filter (fun x => decide (x.length ≤ K)) ++ ts'.filter fun x => !decide (x.length ≤ K)).Perm ts' := List.filter_append_perm _ _
  have hs : (ts'.filter (fun x => decide (x.length ≤ K)) ++ ts'.filter fun x => !decide (x.length ≤ K)).Pairwise fun a b => ¬ ltT b a := by
    rw [List.pairwise_append]
    refine ⟨h'.2.filter _, h'.2.filter _, fun a ha b hb => ?_⟩
    have h1 := of_decide_eq_true (List.mem_filter.1 ha).2
    have h2 : ¬ b.length ≤ K := by simpa using (List.mem_filter.1 hb).2
    exact ltT_asymm (.inl (by omega))
  have e1 := sorted_unique _ _ hp hs h'.2
  have hn := (texts_nodup h').filter (fun x => decide (x.length ≤ K))
  have hm : ∀ x, x ∈ ts'.filter (fun x => decide (x.length ≤ K)) ↔ x ∈ ts := fun x => by
    rw [List.mem_filter, texts_iff hR hE h', texts_iff hR hE h, decide_eq_true_eq]
    constructor
    · rintro ⟨⟨_, h1, h2⟩, h3⟩
      exact ⟨h3, h1, h2⟩
    · rintro ⟨h1, h2, h3⟩
      exact ⟨⟨by omega, h2, h3⟩, h1⟩
  have e2 := sorted_unique _ _ ((List.perm_ext_iff_of_nodup hn (texts_nodup h)).2 hm) (h'.2.filter _) h.2
  exact ⟨_, by rw [← e2]; exact e1.symm⟩
set_option maxRecDepth 100000 in
set_option maxHeartbeats 4000000 in
theorem more_any (v : Value) (l : List ByteArray) (r : ByteArray) (x y : Int) (w : World) (hl : RowsAny w v 1 sc l) (bx : 0 ≤ x ∧ x ≤ 255) (by_ : 0 ≤ y ∧ y ≤ 255) : Calls Tryz.prog 11 #[.agg #[v], .string r, .int .u8 x, .int .u8 y] w fun e w' => e = .returned (.bool true) ∧ Below w.heap.size w w' := by
  have HL := Lib.hid hl
  clear hl
  cases hrd : readyB l [] with
  | false =>
    have HRd := Lib.hid hrd
    clear hrd
    go_enter Tryz.func11, Tryz.ntmps11
    have B1 := Box.new (w := w) (t := 24) (cs := #[v]) rfl
    have c1 := fun i => B1.cell i
    go_wp2_with fail
    refine (ready_any v _ l [] _ (HL.out.kept (up_alloc up0 _)) ⟨none, 0, rfl, Nat.zero_le _, Nat.zero_le _, fun h => absurd rfl h⟩).mono ?_
    rintro e w1 ⟨rfl, hb1⟩
    rw [HRd.out]
    have hB1 := up_later (up_alloc up0 _) hb1
    have B1 := B1.kept hb1
    have c1 := fun i => B1.cell i
    clear hb1
    go_wp2_with fail
    refine (awake_any _).mono ?_
    rintro e w9 ⟨rfl, hb9⟩
    go_wp2_with fail
    go_ret
    exact ⟨rfl, up_later hB1 hb9⟩
  | true =>
    have HRd := Lib.hid hrd
    obtain ⟨h6, -, hce, -, -, -⟩ := readyB_ok hrd
    obtain ⟨C, hC⟩ : ∃ C, signsE [r, ⟨#[]⟩] = C := ⟨_, rfl⟩
    have HC := Lib.hid hC
    by_cases hC0 : C = 0
    case neg =>
      have e1 : (C == 0) = false := beq_eq_false_iff_ne.2 hC0
      have e2 : (C != 0) = true := by rw [bne, e1]; rfl
      clear hC hC0 hrd hce
      go_enter Tryz.func11, Tryz.ntmps11
      have B1 := Box.new (w := w) (t := 24) (cs := #[v]) rfl
      have c1 := fun i => B1.cell i
      go_wp2_with fail
      refine (ready_any v _ l [] _ (HL.out.kept (up_alloc up0 _)) ⟨none, 0, rfl, Nat.zero_le _, Nat.zero_le _, fun h => absurd rfl h⟩).mono ?_
      rintro e w1 ⟨rfl, hb1⟩
      rw [HRd.out]
      have hB1 := up_later (up_alloc up0 _) hb1
      have B1 := B1.kept hb1
      have c1 := fun i => B1.cell i
      clear hb1
      go_wp2_with fail
      refine (signed_any r ⟨#[]⟩ _).mono ?_
      rintro e w2 ⟨rfl, hb2⟩
      rw [HC.out]
      have hB2 := up_later hB1 hb2
      clear hb2 hB1
      go_wp2_with fail
      refine (awake_any _).mono ?_
      rintro e w9 ⟨rfl, hb9⟩
      go_wp2_with fail
      go_ret
      exact ⟨rfl, up_later hB2 hb9⟩
    subst hC0
    obtain ⟨k1, -, k3, -⟩ := signs_one' hC
    obtain ⟨k, hk⟩ : ∃ k : Nat, x.toNat % 3 = k := ⟨_, rfl⟩
    obtain ⟨n, hn⟩ : ∃ n : Nat, y.toNat % 4 = n := ⟨_, rfl⟩
    have hX : x.tmod 3 = (k : Int) := by rw [Int.tmod_eq_emod_of_nonneg bx.1]; omega
    have hY : y.tmod 4 = (n : Int) := by rw [Int.tmod_eq_emod_of_nonneg by_.1]; omega
    have k2 : k ≤ 2 := by omega
    have n3 : n ≤ 3 := by omega
    have HSO := signs_one k1 k3
    have HR4 := Lib.hid (show r.data.toList.length ≤ 40 by rw [← Lib.size_eq]; exact k1)
    have H1 := Lib.hid (textsE_ok (l := l) (r := r) (E := k) (K := n) hce HSO (by omega) (by omega))
    have H2 := Lib.hid (textsE_ok (l := l) (r := r) (E := (k : Int) + 1) (K := n) hce HSO (by omega) (by omega))
    have H3 := Lib.hid (textsE_ok (l := l) (r := r) (E := k) (K := (n : Int) + 1) hce HSO (by omega) (by omega))
    have J1 : ∀ ts, IsTexts l r.data.toList ((k : Int)).toNat ((n : Int)).toNat ts → IsTexts l r.data.toList k n ts := fun ts h => by simpa using h
    have J2 : ∀ ts, IsTexts l r.data.toList ((k : Int) + 1).toNat ((n : Int)).toNat ts → IsTexts l r.data.toList (k + 1) n ts := fun ts h => by
      rw [show ((k : Int) + 1).toNat = k + 1 by omega] at h
      simpa using h
    have J3 : ∀ ts, IsTexts l r.data.toList ((k : Int)).toNat ((n : Int) + 1).toNat ts → IsTexts l r.data.toList k (n + 1) ts := fun ts h => by
      rw [show ((n : Int) + 1).toNat = n + 1 by omega] at h
      simpa using h
    have HJ1 := Lib.hid J1
    have HJ2 := Lib.hid J2
    have HJ3 := Lib.hid J3
    clear hC hrd hce hk hn HSO J1 J2 J3 k3
    go_enter Tryz.func11, Tryz.ntmps11
    have B1 := Box.new (w := w) (t := 24) (cs := #[v]) rfl
    have c1 := fun i => B1.cell i
    go_wp2_with fail
    refine (ready_any v _ l [] _ (HL.out.kept (up_alloc up0 _)) ⟨none, 0, rfl, Nat.zero_le _, Nat.zero_le _, fun h => absurd rfl h⟩).mono ?_
    rintro e w1 ⟨rfl, hb1⟩
    rw [HRd.out]
    have hB1 := up_later (up_alloc up0 _) hb1
    have B1 := B1.kept hb1
    have c1 := fun i => B1.cell i
    clear hb1
    go_wp2_with fail
    refine (signed_any r ⟨#[]⟩ _).mono ?_
    rintro e w2 ⟨rfl, hb2⟩
    rw [HC.out]
    have hB := up_later hB1 hb2
    have B1 := B1.kept hb2
    have c1 := fun i => B1.cell i
    clear hb2 hB1
    go_wp2_with fail
    refine (Code_any v l _ ((HL.out.kept hB).rows (by omega))).mono ?_
    rintro e wa ⟨ua, rfl, hua, hba⟩
    have hB' := up_later hB hba
    have B1 := B1.kept hba
    have c1 := fun i => B1.cell i
    skip
    clear hba hB
    go_wp2_with fail
    refine (Texts_any ua l r (k) (n) _ hua).mono ?_
    rintro e wb ⟨u1, ps1, rfl, hp, hi, -, hb⟩
    rw [H1.out]
    obtain ⟨A1, c1', hf, -, -⟩ := hp.1.form
    subst hf
    have hB := up_later hB' hb
    have B1 := B1.kept hb
    have c1 := fun i => B1.cell i
    have T1 := Lib.hid hp
    have I1 := Lib.hid (HJ1.out _ (hi H1.out))
    skip
    clear hp hi hua hB' hb
    go_wp2_with fail
    refine (Code_any v l _ ((HL.out.kept hB).rows (by omega))).mono ?_
    rintro e wa ⟨ua, rfl, hua, hba⟩
    have hB' := up_later hB hba
    have B1 := B1.kept hba
    have c1 := fun i => B1.cell i
    have T1 := Lib.hid (T1.out.kept hba)
    clear hba hB
    go_wp2_with fail
    refine (Texts_any ua l r ((k : Int) + 1) (n) _ hua).mono ?_
    rintro e wb ⟨u2, ps2, rfl, hp, hi, -, hb⟩
    rw [H2.out]
    obtain ⟨A2, c2', hf, -, -⟩ := hp.1.form
    subst hf
    have hB := up_later hB' hb
    have B1 := B1.kept hb
    have c1 := fun i => B1.cell i
    have T2 := Lib.hid hp
    have I2 := Lib.hid (HJ2.out _ (hi H2.out))
    have T1 := Lib.hid (T1.out.kept hb)
    clear hp hi hua hB' hb
    go_wp2_with fail
    refine (Code_any v l _ ((HL.out.kept hB).rows (by omega))).mono ?_
    rintro e wa ⟨ua, rfl, hua, hba⟩
    have hB' := up_later hB hba
    have B1 := B1.kept hba
    have c1 := fun i => B1.cell i
    (have T1 := Lib.hid (T1.out.kept hba)); have T2 := Lib.hid (T2.out.kept hba)
    clear hba hB
    go_wp2_with fail
    refine (Texts_any ua l r (k) ((n : Int) + 1) _ hua).mono ?_
    rintro e wb ⟨u3, ps3, rfl, hp, hi, -, hb⟩
    rw [H3.out]
    obtain ⟨A3, c3', hf, -, -⟩ := hp.1.form
    subst hf
    have hB := up_later hB' hb
    have B1 := B1.kept hb
    have c1 := fun i => B1.cell i
    have T3 := Lib.hid hp
    have I3 := Lib.hid (HJ3.out _ (hi H3.out))
    (have T1 := Lib.hid (T1.out.kept hb)); have T2 := Lib.hid (T2.out.kept hb)
    clear hp hi hua hB' hb
    have HSub := Lib.hid (texts_sub (K := n) HR4.out (by omega) (Nat.le_succ k) I1.out I2.out)
    have HPre := Lib.hid (texts_pre HR4.out (by omega) I1.out I3.out)
    have HLen : Hid (∀ t ∈ ps1.map (·.2), t.length ≤ n) := Lib.hid fun t ht => ((texts_iff HR4.out (by omega) I1.out t).1 ht).1
    have hp13 : ps1.length ≤ ps3.length := by
      obtain ⟨q, hq⟩ := HPre.out
      have := congrArg List.length hq
      rw [List.length_map, List.length_append, List.length_map] at this
      omega
    have hp19 : ps3.length ≤ 9223372036854775807 := by
      obtain ⟨A, c, _, h1, h2⟩ := T3.out.1.form
      omega
    clear B1
    go_wp2_with fail
    go_loopw [17] (fun i wr => ∃ j : Nat, j ≤ ps1.length ∧ i = iv j ∧ Hid (TextsAny wr (.slice A1 ps1.length c1') ps1) ∧ Hid (TextsAny wr (.slice A2 ps2.length c2') ps2) ∧ Hid (TextsAny wr (.slice A3 ps3.length c3') ps3) ∧ Below w.heap.size w wr) (fun i _ => ps1.length - (intOf i).toNat)
    case atStart => exact ⟨0, by omega, rfl, T1, T2, T3, hB⟩
    case round =>
      obtain ⟨j, hj, rfl, T1, T2, T3, hB⟩ := hrel
      by_cases hlt : j < ps1.length
      · have hlt' : (j : Int) < (ps1.length : Int) := by omega
        have hlt3 : (j : Int) < (ps3.length : Int) := by omega
        have j0 : (0 : Int) ≤ (j : Int) := by omega
        obtain ⟨⟨xv, x⟩, hx⟩ : ∃ x, ps1[j]? = some x := ⟨_, List.getElem?_eq_getElem hlt⟩
        have hx1 : (ps1.map (·.2))[j]? = some x := by rw [List.getElem?_map, hx]; rfl
        obtain ⟨⟨zv, z⟩, hz⟩ : ∃ x, ps3[j]? = some x := ⟨_, List.getElem?_eq_getElem (by omega)⟩
        obtain rfl : z = x := by
          obtain ⟨q, hq⟩ := HPre.out
          have h1 : (ps3.map (·.2))[j]? = some z := by rw [List.getElem?_map, hz]; rfl
          rw [hq, List.getElem?_append_left (by rw [List.length_map]; exact hlt), hx1] at h1
          exact (Option.some.inj h1).symm
        obtain ⟨b, off, rfl, hb, q0, r0⟩ := T1.out.at hx
        obtain ⟨b3, off3, rfl, hb3, q3, r3⟩ := T3.out.at hz
        obtain ⟨xA, xc, hxv, -, -⟩ := r0.form
        simp only at hxv q0 q3
        subst hxv
        have hxn : decide (n < z.length) = false := decide_eq_false (by have := HLen.out z (List.mem_of_getElem? hx1); omega)
        have hge : decide (ps3.length ≤ j) = false := decide_eq_false (by omega)
        have HIn := Lib.hid (show decide (z ∈ ps2.map (·.2)) = true from decide_eq_true (HSub.out z (List.mem_of_getElem? hx1)))
        have R0 := Lib.hid r0
        have R3 := Lib.hid r3
        have HB := Lib.hid hB
        clear hx hx1 hz r0 r3 hB
        go_wp2_with fail
        apply wp_region_by 34 [(Fact.eq _), (Fact.eq _), (Fact.eq _), (Fact.eq _), (Fact.eq _), (Fact.eq _), (Fact.eq (.bool false)), (Fact.eq _), (Fact.eq _), (Fact.eq _), (Fact.eq _), (Fact.eq _), (Fact.eq _), (Fact.eq (.bool true)), (Fact.eq _), (Fact.eq _), (Fact.eq _), (Fact.eq _), (Fact.eq _), (Fact.eq _), (Fact.eq (.bool false)), (Fact.eq _), (Fact.eq _), (Fact.eq _), (Fact.eq _), (Fact.eq _), (Fact.eq _), (Fact.eq _), (Fact.eq _), (Fact.eq _), (Fact.eq _), (Fact.eq (.bool true)), (Fact.eq _), (Fact.eq _)]
        case hm => kernel_rfl
        case hB => kernel_rfl
        case hA => (intro vs; simp only [List.take_succ_cons, List.take_zero, putAll, if_true, Act.put, List.setIfInBounds_toArray, List.set_cons_zero, List.set_cons_succ]; exact rfl)
        case hstep =>
          intro vs
          refine And.intro (fun w hw hd => ?_) ?_
          · refine ite_yes rfl ?_
            simp only [Gives]
            go_simp
            exact ⟨Below.refl _ _, rfl, fun h => by cases h⟩
          refine And.intro (fun w hw hd => ?_) ?_
          · refine ite_yes rfl ?_
            simp only [Gives]
            go_simp
            exact ⟨Below.refl _ _, rfl, fun h => by cases h⟩
          refine And.intro (fun w hw hd => ?_) ?_
          · have d0 := hd 0 (by decide) rfl
            change vs 0 = _ at d0
            have d1 := hd 1 (by decide) rfl
            change vs 1 = _ at d1
            refine ite_yes rfl ?_
            simp only [Gives]
            go_simp
            exact ⟨Below.refl _ _, rfl, fun h => by cases h⟩
          refine And.intro (fun w hw hd => ?_) ?_
          · have d2 := hd 2 (by decide) rfl
            change vs 2 = _ at d2
            refine ite_yes rfl ?_
            have p0 := (hw.cell (p := ⟨b, off + j, none⟩) hb).trans q0
            have p1 := (hw.cell (p := ⟨b3, off3 + j, none⟩) hb3).trans q3
            simp only [Gives]
            go_simp
            exact ⟨Below.refl _ _, rfl, fun h => by cases h⟩
          refine And.intro (fun w hw hd => ?_) ?_
          · have d3 := hd 3 (by decide) rfl
            change vs 3 = _ at d3
            refine ite_yes rfl ?_
            simp only [Gives]
            go_simp
            exact ⟨Below.refl _ _, rfl, fun h => by cases h⟩
          refine And.intro (fun w hw hd => ?_) ?_
          · refine ite_yes rfl ?_
            simp only [Gives]
            go_simp
            exact ⟨Below.refl _ _, rfl, fun h => by cases h⟩
          refine And.intro (fun w hw hd => ?_) ?_
          · have d4 := hd 4 (by decide) rfl
            change vs 4 = _ at d4
            have d5 := hd 5 (by decide) rfl
            change vs 5 = _ at d5
            refine ite_yes rfl ?_
            simp only [Gives]
            go_simp
            (try rw [hxn])
            exact ⟨Below.refl _ _, rfl, fun h => by cases h⟩
          refine And.intro (fun w hw hd => ?_) ?_
          · have d6 := hd 6 (by decide) rfl
            change vs 6 = _ at d6
            refine ite_yes rfl ?_
            simp only [Gives]
            go_simp
            exact ⟨Below.refl _ _, rfl, fun h => by cases h⟩
          refine And.intro (fun w hw hd => ?_) ?_
          · have d7 := hd 7 (by decide) rfl
            change vs 7 = _ at d7
            refine ite_yes (by simp [Region.wanted, yielded, d7]) ?_
            simp only [Gives]
            go_simp
            exact ⟨Below.refl _ _, rfl, fun h => by cases h⟩
          refine And.intro (fun w hw hd => ?_) ?_
          · have d7 := hd 7 (by decide) rfl
            change vs 7 = _ at d7
            refine ite_yes (by simp [Region.wanted, yielded, d7]) ?_
            simp only [Gives]
            go_simp
            exact ⟨Below.refl _ _, rfl, fun h => by cases h⟩
          refine And.intro (fun w hw hd => ?_) ?_
          · have d7 := hd 7 (by decide) rfl
            change vs 7 = _ at d7
            refine ite_yes (by simp [Region.wanted, yielded, d7]) ?_
            simp only [Gives]
            go_simp
            exact ⟨Below.refl _ _, rfl, fun h => by cases h⟩
          refine And.intro (fun w hw hd => ?_) ?_
          · have d9 := hd 9 (by decide) rfl
            change vs 9 = _ at d9
            have d10 := hd 10 (by decide) rfl
            change vs 10 = _ at d10
            have d7 := hd 7 (by decide) rfl
            change vs 7 = _ at d7
            refine ite_yes (by simp [Region.wanted, yielded, d7]) ?_
            simp only [Gives]
            go_simp
            exact ⟨Below.refl _ _, rfl, fun h => by cases h⟩
          refine And.intro (fun w hw hd => ?_) ?_
          · have d11 := hd 11 (by decide) rfl
            change vs 11 = _ at d11
            have d7 := hd 7 (by decide) rfl
            change vs 7 = _ at d7
            refine ite_yes (by simp [Region.wanted, yielded, d7]) ?_
            have p0 := (hw.cell (p := ⟨b, off + j, none⟩) hb).trans q0
            have p1 := (hw.cell (p := ⟨b3, off3 + j, none⟩) hb3).trans q3
            simp only [Gives]
            go_simp
            exact ⟨Below.refl _ _, rfl, fun h => by cases h⟩
          refine And.intro (fun w hw hd => ?_) ?_
          · have d8 := hd 8 (by decide) rfl
            change vs 8 = _ at d8
            have d12 := hd 12 (by decide) rfl
            change vs 12 = _ at d12
            have d7 := hd 7 (by decide) rfl
            change vs 7 = _ at d7
            refine ite_yes (by simp [Region.wanted, yielded, d7]) ?_
            simp only [Gives]
            go_simp
            refine (has_any _ _ ps2 z w (T2.out.kept hw) (R0.out.kept hw)).mono ?_
            rintro e w7 ⟨rfl, hb⟩
            rw [HIn.out]
            exact ⟨_, rfl, hb, rfl, fun h => by cases h⟩
          refine And.intro (fun w hw hd => ?_) ?_
          · have d13 := hd 13 (by decide) rfl
            change vs 13 = _ at d13
            have d7 := hd 7 (by decide) rfl
            change vs 7 = _ at d7
            refine ite_yes (by simp [Region.wanted, yielded, d7]) ?_
            simp only [Gives]
            go_simp
            exact ⟨Below.refl _ _, rfl, fun h => by cases h⟩
          refine And.intro (fun w hw hd => ?_) ?_
          · have d7 := hd 7 (by decide) rfl
            change vs 7 = _ at d7
            have d14 := hd 14 (by decide) rfl
            change vs 14 = _ at d14
            refine ite_yes rfl ?_
            simp only [Gives]
            go_simp
            exact ⟨Below.refl _ _, rfl, fun h => by cases h⟩
          refine And.intro (fun w hw hd => ?_) ?_
          · have d15 := hd 15 (by decide) rfl
            change vs 15 = _ at d15
            refine ite_yes rfl ?_
            simp only [Gives]
            go_simp
            exact ⟨Below.refl _ _, rfl, fun h => by cases h⟩
          refine And.intro (fun w hw hd => ?_) ?_
          · have d16 := hd 16 (by decide) rfl
            change vs 16 = _ at d16
            refine ite_yes (by simp [Region.wanted, yielded, d16]) ?_
            simp only [Gives]
            go_simp
            exact ⟨Below.refl _ _, rfl, fun h => by cases h⟩
          refine And.intro (fun w hw hd => ?_) ?_
          · have d16 := hd 16 (by decide) rfl
            change vs 16 = _ at d16
            refine ite_yes (by simp [Region.wanted, yielded, d16]) ?_
            simp only [Gives]
            go_simp
            exact ⟨Below.refl _ _, rfl, fun h => by cases h⟩
          refine And.intro (fun w hw hd => ?_) ?_
          · have d18 := hd 18 (by decide) rfl
            change vs 18 = _ at d18
            have d16 := hd 16 (by decide) rfl
            change vs 16 = _ at d16
            refine ite_yes (by simp [Region.wanted, yielded, d16]) ?_
            simp only [Gives]
            go_simp
            exact ⟨Below.refl _ _, rfl, fun h => by cases h⟩
          refine And.intro (fun w hw hd => ?_) ?_
          · have d17 := hd 17 (by decide) rfl
            change vs 17 = _ at d17
            have d19 := hd 19 (by decide) rfl
            change vs 19 = _ at d19
            have d16 := hd 16 (by decide) rfl
            change vs 16 = _ at d16
            refine ite_yes (by simp [Region.wanted, yielded, d16]) ?_
            simp only [Gives]
            go_simp
            (try rw [hge])
            exact ⟨Below.refl _ _, rfl, fun h => by cases h⟩
          refine And.intro (fun w hw hd => ?_) ?_
          · have d16 := hd 16 (by decide) rfl
            change vs 16 = _ at d16
            have d20 := hd 20 (by decide) rfl
            change vs 20 = _ at d20
            refine ite_yes rfl ?_
            simp only [Gives]
            go_simp
            exact ⟨Below.refl _ _, rfl, fun h => by cases h⟩
          refine And.intro (fun w hw hd => ?_) ?_
          · have d21 := hd 21 (by decide) rfl
            change vs 21 = _ at d21
            refine ite_yes rfl ?_
            simp only [Gives]
            go_simp
            exact ⟨Below.refl _ _, rfl, fun h => by cases h⟩
          refine And.intro (fun w hw hd => ?_) ?_
          · have d22 := hd 22 (by decide) rfl
            change vs 22 = _ at d22
            refine ite_yes (by simp [Region.wanted, yielded, d22]) ?_
            simp only [Gives]
            go_simp
            exact ⟨Below.refl _ _, rfl, fun h => by cases h⟩
          refine And.intro (fun w hw hd => ?_) ?_
          · have d22 := hd 22 (by decide) rfl
            change vs 22 = _ at d22
            refine ite_yes (by simp [Region.wanted, yielded, d22]) ?_
            simp only [Gives]
            go_simp
            exact ⟨Below.refl _ _, rfl, fun h => by cases h⟩
          refine And.intro (fun w hw hd => ?_) ?_
          · have d23 := hd 23 (by decide) rfl
            change vs 23 = _ at d23
            have d24 := hd 24 (by decide) rfl
            change vs 24 = _ at d24
            have d22 := hd 22 (by decide) rfl
            change vs 22 = _ at d22
            refine ite_yes (by simp [Region.wanted, yielded, d22]) ?_
            simp only [Gives]
            go_simp
            exact ⟨Below.refl _ _, rfl, fun h => by cases h⟩
          refine And.intro (fun w hw hd => ?_) ?_
          · have d25 := hd 25 (by decide) rfl
            change vs 25 = _ at d25
            have d22 := hd 22 (by decide) rfl
            change vs 22 = _ at d22
            refine ite_yes (by simp [Region.wanted, yielded, d22]) ?_
            have p0 := (hw.cell (p := ⟨b, off + j, none⟩) hb).trans q0
            have p1 := (hw.cell (p := ⟨b3, off3 + j, none⟩) hb3).trans q3
            simp only [Gives]
            go_simp
            exact ⟨Below.refl _ _, rfl, fun h => by cases h⟩
          refine And.intro (fun w hw hd => ?_) ?_
          · have d22 := hd 22 (by decide) rfl
            change vs 22 = _ at d22
            refine ite_yes (by simp [Region.wanted, yielded, d22]) ?_
            simp only [Gives]
            go_simp
            exact ⟨Below.refl _ _, rfl, fun h => by cases h⟩
          refine And.intro (fun w hw hd => ?_) ?_
          · have d22 := hd 22 (by decide) rfl
            change vs 22 = _ at d22
            refine ite_yes (by simp [Region.wanted, yielded, d22]) ?_
            simp only [Gives]
            go_simp
            exact ⟨Below.refl _ _, rfl, fun h => by cases h⟩
          refine And.intro (fun w hw hd => ?_) ?_
          · have d27 := hd 27 (by decide) rfl
            change vs 27 = _ at d27
            have d28 := hd 28 (by decide) rfl
            change vs 28 = _ at d28
            have d22 := hd 22 (by decide) rfl
            change vs 22 = _ at d22
            refine ite_yes (by simp [Region.wanted, yielded, d22]) ?_
            simp only [Gives]
            go_simp
            exact ⟨Below.refl _ _, rfl, fun h => by cases h⟩
          refine And.intro (fun w hw hd => ?_) ?_
          · have d29 := hd 29 (by decide) rfl
            change vs 29 = _ at d29
            have d22 := hd 22 (by decide) rfl
            change vs 22 = _ at d22
            refine ite_yes (by simp [Region.wanted, yielded, d22]) ?_
            have p0 := (hw.cell (p := ⟨b, off + j, none⟩) hb).trans q0
            have p1 := (hw.cell (p := ⟨b3, off3 + j, none⟩) hb3).trans q3
            simp only [Gives]
            go_simp
            exact ⟨Below.refl _ _, rfl, fun h => by cases h⟩
          refine And.intro (fun w hw hd => ?_) ?_
          · have d26 := hd 26 (by decide) rfl
            change vs 26 = _ at d26
            have d30 := hd 30 (by decide) rfl
            change vs 30 = _ at d30
            have d22 := hd 22 (by decide) rfl
            change vs 22 = _ at d22
            refine ite_yes (by simp [Region.wanted, yielded, d22]) ?_
            simp only [Gives]
            go_simp
            refine (Same_any _ _ z z w (R3.out.kept hw) (R0.out.kept hw)).mono ?_
            rintro e w7 ⟨rfl, hb⟩
            rw [decide_eq_true rfl]
            exact ⟨_, rfl, hb, rfl, fun h => by cases h⟩
          refine And.intro (fun w hw hd => ?_) ?_
          · have d31 := hd 31 (by decide) rfl
            change vs 31 = _ at d31
            have d22 := hd 22 (by decide) rfl
            change vs 22 = _ at d22
            refine ite_yes (by simp [Region.wanted, yielded, d22]) ?_
            simp only [Gives]
            go_simp
            exact ⟨Below.refl _ _, rfl, fun h => by cases h⟩
          refine And.intro (fun w hw hd => ?_) ?_
          · have d22 := hd 22 (by decide) rfl
            change vs 22 = _ at d22
            have d32 := hd 32 (by decide) rfl
            change vs 32 = _ at d32
            refine ite_yes rfl ?_
            simp only [Gives]
            go_simp
            exact ⟨Below.refl _ _, rfl, fun h => by cases h⟩
          exact trivial
        intro vs wt hw hd hne hlo
        have d0 := hd 0 (by decide)
        change vs 0 = _ at d0
        have d1 := hd 1 (by decide)
        change vs 1 = _ at d1
        have d2 := hd 2 (by decide)
        change vs 2 = _ at d2
        have d3 := hd 3 (by decide)
        change vs 3 = _ at d3
        have d4 := hd 4 (by decide)
        change vs 4 = _ at d4
        have d5 := hd 5 (by decide)
        change vs 5 = _ at d5
        have d6 := hd 6 (by decide)
        change vs 6 = _ at d6
        have d7 := hd 7 (by decide)
        change vs 7 = _ at d7
        have d8 := hd 8 (by decide)
        change vs 8 = _ at d8
        have d9 := hd 9 (by decide)
        change vs 9 = _ at d9
        have d10 := hd 10 (by decide)
        change vs 10 = _ at d10
        have d11 := hd 11 (by decide)
        change vs 11 = _ at d11
        have d12 := hd 12 (by decide)
        change vs 12 = _ at d12
        have d13 := hd 13 (by decide)
        change vs 13 = _ at d13
        have d14 := hd 14 (by decide)
        change vs 14 = _ at d14
        have d15 := hd 15 (by decide)
        change vs 15 = _ at d15
        have d16 := hd 16 (by decide)
        change vs 16 = _ at d16
        have d17 := hd 17 (by decide)
        change vs 17 = _ at d17
        have d18 := hd 18 (by decide)
        change vs 18 = _ at d18
        have d19 := hd 19 (by decide)
        change vs 19 = _ at d19
        have d20 := hd 20 (by decide)
        change vs 20 = _ at d20
        have d21 := hd 21 (by decide)
        change vs 21 = _ at d21
        have d22 := hd 22 (by decide)
        change vs 22 = _ at d22
        have d23 := hd 23 (by decide)
        change vs 23 = _ at d23
        have d24 := hd 24 (by decide)
        change vs 24 = _ at d24
        have d25 := hd 25 (by decide)
        change vs 25 = _ at d25
        have d26 := hd 26 (by decide)
        change vs 26 = _ at d26
        have d27 := hd 27 (by decide)
        change vs 27 = _ at d27
        have d28 := hd 28 (by decide)
        change vs 28 = _ at d28
        have d29 := hd 29 (by decide)
        change vs 29 = _ at d29
        have d30 := hd 30 (by decide)
        change vs 30 = _ at d30
        have d31 := hd 31 (by decide)
        change vs 31 = _ at d31
        have d32 := hd 32 (by decide)
        change vs 32 = _ at d32
        have d33 := hd 33 (by decide)
        change vs 33 = _ at d33
        simp only [d0, d1, d2, d3, d4, d5, d7, d8, d9, d10, d11, d12, d14, d15, d16, d17, d18, d19, d21, d22, d23, d24, d25, d26, d27, d28, d29, d30, d32, d33, List.drop_succ_cons, List.drop_nil]
        clear hd hne hlo d0 d1 d2 d3 d4 d5 d7 d8 d9 d10 d11 d12 d14 d15 d16 d17 d18 d19 d21 d22 d23 d24 d25 d26 d27 d28 d29 d30 d32 d33
        have hB7 := up_later HB.out hw
        have U1 := Lib.hid (T1.out.kept hw)
        have U2 := Lib.hid (T2.out.kept hw)
        have U3 := Lib.hid (T3.out.kept hw)
        clear hw
        go_wp2_with fail
        go_roundw
        case rel => exact ⟨j + 1, by omega, by go_num, U1, U2, U3, hB7⟩
        case measure => simp [intOf]; omega
      · have hlt' : ¬ (j : Int) < (ps1.length : Int) := by omega
        go_wp2_with fail
        refine (awake_any _).mono ?_
        rintro e w9 ⟨rfl, hb9⟩
        go_wp2_with fail
        go_ret
        exact ⟨rfl, up_later hB hb9⟩
end Go.Proofs.YtonekgefegfapaaGreat

namespace Go.Proofs.YtonekgefegfapaaGreat
open Go.RowKit

section
variable {P : Program}
theorem gives_slice {o : Oper} {ρ : Operand → Value} {w : World} {K : Value → World → Prop} (t : TypeId) (x : Operand) (lo hi : Option Operand) (ho : o.op = .slice t x lo hi none) (u v : Value) (vlo vhi : Option Value) (hx : ρ x = u)
    (hlo : lo.map ρ = vlo) (hhi : hi.map ρ = vhi) (hr : (Instr.sliceAt t u vlo vhi none).run P w = .ok v w) (hK : K v w) : gives P K ((execOp ρ o).run P w) := by
  unfold execOp
  simp only [ho, hx, hlo, hhi, Option.map_none, Sem.run_bind, Sem.run_pure, hr, Result.andThen_ok]
  exact hK
theorem rows_from {α : Type} {cells : α → List Value} {sz : Nat} {t e : TypeId} {i : TypeInfo} (ht : P.underlying t = some (.slice e)) (hi : P.info? e = some i) (hs : i.size = sz) {A : Option Addr} {cap : Nat} {l : List α} {r : Nat} (hr : r ≤ l.length) (k : IntKind) :
    ∃ V, (∀ w, (Instr.sliceAt t (.slice A l.length cap) (some (.int k (r : Int))) none none).run P w = .ok V w) ∧ ∀ w, RowsAt w (.slice A l.length cap) sz cells l → RowsAt w V sz cells (l.drop r) := by
  refine ⟨.slice (if cap = r then A else A.map (·.add (r * sz))) (l.length - r) (cap - r), fun w => ?_, fun w h => ?_⟩
  · have h0 : (0 : Int) ≤ (r : Int) := by omega
    have h1 : (r : Int) ≤ (l.length : Int) := by omega
    simp [Instr.sliceAt, Instr.slice, run_underlying ht, Instr.sliceBounds, run_sliceBound, sizeOf, typeInfo, hi, hs, h0, hr]
  · obtain ⟨hk, A', cap', e1, h2, h3, h4⟩ := h
    cases e1
    refine ⟨by rw [List.length_drop]; omega, _, _, by rw [List.length_drop], by rw [List.length_drop]; omega, by omega, fun hne => ?_⟩
    have hlt : r < l.length := by
      rcases Nat.lt_or_ge r l.length with h | h
      · exact h
      · exact absurd (List.drop_eq_nil_of_le h) hne
    obtain ⟨b, off, rfl, hb, hc⟩ := h4 (fun e => by rw [e] at hlt; simp at hlt)
    refine ⟨b, off + r * sz, ?_, hb, fun m x hx j u hu => ?_⟩
    · rw [if_neg (by omega)]
      unfold Addr.add
      by_cases h : r * sz = 0 <;> simp [h]
    · rw [List.getElem?_drop] at hx
      have := hc _ x hx j u hu
      rw [Nat.add_mul] at this
      rw [show off + r * sz + m * sz + j = off + (r * sz + m * sz) + j by omega]
      exact this
theorem rows_upto {α : Type} {cells : α → List Value} {sz : Nat} {t e : TypeId} {i : TypeInfo} (ht : P.underlying t = some (.slice e)) (hi : P.info? e = some i) {A : Option Addr} {cap : Nat} {l : List α} {r : Nat} (hr : r ≤ l.length) (hcap : l.length ≤ cap) (k : IntKind) :
    ∃ V, (∀ w, (Instr.sliceAt t (.slice A l.length cap) none (some (.int k (r : Int))) none).run P w = .ok V w) ∧ ∀ w, RowsAt w (.slice A l.length cap) sz cells l → RowsAt w V sz cells (l.take r) := by
  refine ⟨.slice A r cap, fun w => ?_, fun w h => ?_⟩
  · have h0 : (0 : Int) ≤ (r : Int) := by omega
    have h1 : (r : Int) ≤ (cap : Int) := by omega
    have h2 : (if cap = 0 then A else A.map (·.add 0)) = A := by
      split
      · rfl
      · cases A <;> simp [Addr.add]
    simp [Instr.sliceAt, Instr.slice, run_underlying ht, Instr.sliceBounds, run_sliceBound, sizeOf, typeInfo, hi, h0, h1, h2]
  · obtain ⟨hk, A', cap', e1, h2, h3, h4⟩ := h
    cases e1
    have hlen : (l.take r).length = r := by rw [List.length_take]; omega
    refine ⟨by omega, A, cap, by rw [hlen], by omega, h3, fun hne => ?_⟩
    obtain ⟨b, off, rfl, hb, hc⟩ := h4 (fun e => by rw [e] at hne; simp at hne)
    refine ⟨b, off, rfl, hb, fun m x hx j u hu => ?_⟩
    rw [List.getElem?_take] at hx
    split at hx
    · exact hc m x hx j u hu
    · cases hx
end
end Go.Proofs.YtonekgefegfapaaGreat

namespace Go.Proofs.YtonekgefegfapaaGreat
open Go.RowKit

def rotB (k : Nat) (l : List ByteArray) : List ByteArray := l.drop k ++ l.take k
theorem rotB_len {k : Nat} {l : List ByteArray} : (rotB k l).length = l.length := by
  unfold rotB
  rw [List.length_append, List.length_drop, List.length_take]
  omega
theorem rotB_perm {k : Nat} {l : List ByteArray} : (rotB k l).Perm l := by
  have h := (List.perm_append_comm (l₁ := l.drop k) (l₂ := l.take k))
  rw [List.take_append_drop] at h
  exact h
theorem code_rot {k : Nat} {l : List ByteArray} (h : codeE l = 0) : codeE (rotB k l) = 0 := by
  obtain ⟨h1, h2⟩ := codeE_len h
  unfold codeE
  rw [if_neg (by rw [rotB_len]; omega), if_neg]
  intro h3
  unfold codeB at h2 h3
  rw [rotB_len, rotB_perm.all_eq, rotB_perm.all_eq, decide_eq_decide.2 rotB_perm.nodup_iff, h2] at h3
  cases h3
/-- The number that a letter has then; the number that it had. -/
def toN (n k : Nat) (x : Int) : Int := (((x.toNat + n - k) % n : Nat) : Int)
def ofN (n k : Nat) (x : Int) : Int := (((x.toNat + k) % n : Nat) : Int)
theorem letB_iff {n : Nat} {x : Int} : letB n x = true ↔ 0 ≤ x ∧ x < (n : Int) := by
  unfold letB
  simp
theorem toN_let {n k : Nat} {x : Int} (hx : letB n x = true) : letB n (toN n k x) = true := by
  rw [letB_iff] at hx ⊢
  have : (x.toNat + n - k) % n < n := Nat.mod_lt _ (by omega)
  unfold toN
  omega
theorem ofN_let {n k : Nat} {x : Int} (hx : letB n x = true) : letB n (ofN n k x) = true := by
  rw [letB_iff] at hx ⊢
  have : (x.toNat + k) % n < n := Nat.mod_lt _ (by omega)
  unfold ofN
  omega
theorem mod_one {a n : Nat} (h : n ≤ a) (h2 : a < n + n) : a % n = a - n := by
  rw [Nat.mod_eq_sub_mod h, Nat.mod_eq_of_lt (by omega)]
theorem toN_at {n k : Nat} {x : Int} (hk : k < n) (hx : letB n x = true) : toN n k x = if x < (k : Int) then x + n - k else x - k := by
  rw [letB_iff] at hx
  unfold toN
  split
  · rw [Nat.mod_eq_of_lt (by omega)]
    omega
  · rw [mod_one (by omega) (by omega)]
    omega
theorem ofN_at {n k : Nat} {x : Int} (hk : k < n) (hx : letB n x = true) : ofN n k x = if x + k < (n : Int) then x + k else x + k - n := by
  rw [letB_iff] at hx
  unfold ofN
  split
  · rw [Nat.mod_eq_of_lt (by omega)]
    omega
  · rw [mod_one (by omega) (by omega)]
    omega
theorem toN_ofN {n k : Nat} {x : Int} (hk : k < n) (hx : letB n x = true) : toN n k (ofN n k x) = x := by
  rw [toN_at hk (ofN_let hx), ofN_at hk hx]
  rw [letB_iff] at hx
  split <;> split <;> omega
theorem ofN_toN {n k : Nat} {x : Int} (hk : k < n) (hx : letB n x = true) : ofN n k (toN n k x) = x := by
  rw [ofN_at hk (toN_let hx), toN_at hk hx]
  rw [letB_iff] at hx
  split <;> split <;> omega
theorem fls_rot {l : List ByteArray} {k : Nat} {x : Int} (hk : k < l.length) (hx : letB l.length x = true) : flsL (rotB k l) (toN l.length k x) = flsL l x := by
  rw [toN_at hk hx]
  rw [letB_iff] at hx
  unfold flsL rotB
  rw [List.getD_eq_getElem?_getD, List.getD_eq_getElem?_getD]
  congr 3
  split
  · rw [List.getElem?_append_right (by rw [List.length_drop]; omega), List.length_drop, List.getElem?_take, if_pos (by omega)]
    congr 1
    omega
  · rw [List.getElem?_append_left (by rw [List.length_drop]; omega), List.getElem?_drop]
    congr 1
    omega
theorem sgn_rot {l : List ByteArray} {k : Nat} (hk : k < l.length) {t : List Int} (ht : ∀ x ∈ t, letB l.length x = true) : sgnI (rotB k l) (t.map (toN l.length k)) = sgnI l t := by
  rcases t with _ | ⟨x, t⟩
  · rfl
  · rw [List.map_cons, sgnI_cons, sgnI_cons, fls_rot hk (ht x (List.mem_cons_self ..)), List.flatMap_map]
    congr 1
    have h : ∀ t : List Int, (∀ x ∈ t, letB l.length x = true) → (t.flatMap fun a => 32 :: flsL (rotB k l) (toN l.length k a)) = t.flatMap fun y => 32 :: flsL l y := by
      intro t
      induction t with
      | nil => intro _; rfl
      | cons y t ih =>
        intro h
        rw [List.flatMap_cons, List.flatMap_cons, fls_rot hk (h y (List.mem_cons_self ..)), ih fun z hz => h z (List.mem_cons_of_mem _ hz)]
    exact h t fun z hz => ht z (List.mem_cons_of_mem _ hz)
theorem map_back {f g : Int → Int} {t : List Int} {p : Int → Bool} (h : ∀ x, p x = true → g (f x) = x) (ht : ∀ x ∈ t, p x = true) : (t.map f).map g = t := by
  induction t with
  | nil => rfl
  | cons x t ih => rw [List.map_cons, List.map_cons, h x (ht x (List.mem_cons_self ..)), ih fun y hy => ht y (List.mem_cons_of_mem _ hy)]
/-- **In another order the texts are the same with these numbers.** -/
theorem texts_rot {l : List ByteArray} {R : By} {E K k : Nat} {ts ts' : List (List Int)} (hR : R.length ≤ 40) (hE : E < 120) (hk : k < l.length) (h : IsTexts l R E K ts) (h' : IsTexts (rotB k l) R E K ts') :
    (ts.map fun t => t.map (toN l.length k)).Perm ts' := by
  have hl : ∀ x ∈ ts, ∀ y ∈ x, letB l.length y = true := fun x hx => ((texts_iff hR hE h x).1 hx).2.1
  refine (List.perm_ext_iff_of_nodup ?_ (texts_nodup h')).2 fun y => ?_
  · rw [List.nodup_iff_pairwise_ne, List.pairwise_map]
    refine (List.nodup_iff_pairwise_ne.1 (texts_nodup h)).imp_of_mem fun {a b} ha hb hne e => hne ?_
    have h1 := congrArg (List.map (ofN l.length k)) e
    rwa [map_back (p := letB l.length) (fun x hx => ofN_toN hk hx) (hl a ha), map_back (p := letB l.length) (fun x hx => ofN_toN hk hx) (hl b hb)] at h1
  · rw [List.mem_map, texts_iff hR hE h', rotB_len]
    constructor
    · rintro ⟨x, hx, rfl⟩
      obtain ⟨h1, h2, h3⟩ := (texts_iff hR hE h x).1 hx
      refine ⟨by rw [List.length_map]; exact h1, fun y hy => ?_, by rw [sgn_rot hk h2]; exact h3⟩
      obtain ⟨z, hz, rfl⟩ := List.mem_map.1 hy
      exact toN_let (h2 z hz)
    · rintro ⟨h1, h2, h3⟩
      have hb : (y.map (ofN l.length k)).map (toN l.length k) = y := map_back (p := letB l.length) (fun x hx => toN_ofN hk hx) h2
      have hlet : ∀ z ∈ y.map (ofN l.length k), letB l.length z = true := fun z hz => by
        obtain ⟨u, hu, rfl⟩ := List.mem_map.1 hz
        exact ofN_let (h2 u hu)
      refine ⟨y.map (ofN l.length k), (texts_iff hR hE h _).2 ⟨by rw [List.length_map]; exact h1, hlet, ?_⟩, hb⟩
      rw [← sgn_rot hk hlet, hb]
      exact h3
/-- What the law reckons. -/
theorem toN_rem {n k a : Nat} (hk : k < n) : (((a : Int) + (n : Int)) - (k : Int)).tmod (n : Int) = toN n k (a : Int) := by
  unfold toN
  rw [show ((a : Int) + (n : Int)) - (k : Int) = ((a + n - k : Nat) : Int) by omega, Int.tmod_eq_emod_of_nonneg (by omega)]
  simp
theorem own_rotB {w : World} {b e k : Nat} {v : Value} {l : List ByteArray} (h : w.ownsRow b e 1 v ((l.drop k).length + (l.take k).length) ((l.drop k).flatMap sc ++ (l.take k).flatMap sc)) :
    w.ownsRow b e 1 v (rotB k l).length ((rotB k l).flatMap sc) := by
  unfold rotB
  rw [List.length_append, List.flatMap_append]
  exact h
section
variable {P : Program}
/-- 'append' of all that a slice reads as, onto a slice of the call's own. -/
theorem run_append_rows {w : World} (base : Nat) (t ty e : TypeId) (i : TypeInfo) (z : Value) (size bytes : Nat) (ht : P.underlying t = some (.slice e)) (hi : P.info? e = some i) (hz : i.zero = some z)
    (hsize : i.size = size) (hby : i.bytes = bytes) (hzs : z.cells.size = size) (hsz : 0 < size) (v : Value) (n : Nat) (xs : List Value) (hown : w.ownsRow base e size v n xs)
    {α : Type} (cells : α → List Value) (l : List α) (u : Value) (hR : RowsAt w u size cells l) (hc : ∀ x, (cells x).length = size) (h1 : ∀ x ∈ l, ∀ y ∈ cells x, y.oneCell' = true)
    (h63 : n + l.length ≤ maxLen) (hbytes : (n + l.length) * bytes ≤ 140737488355328) (hbase : base ≤ w.heap.size) :
    ∃ v' w', (Builtin.append_ #[t, t] ty #[v, u]).run P w = .ok v' w' ∧ w'.ownsRow base e size v' (n + l.length) (xs ++ l.flatMap cells) ∧ w.grownBy w' v.ownBlock ∧ (v'.ownBlock = v.ownBlock ∨ v'.ownBlock = some w.heap.size) := by
  obtain ⟨_, A, cap, rfl, _, _, hcell⟩ := hR
  have hl := flat_len hc l
  have ho1 : ∀ y ∈ l.flatMap cells, y.oneCell' = true := fun y hy => by
    obtain ⟨x, hx, hy⟩ := List.mem_flatMap.1 hy
    exact h1 x hx y hy
  by_cases hne : l = []
  · subst hne
    have r0 := run_append_own_at (P := P) w base t ty e i z size bytes ht hi hz hsize hby hzs hsz v n xs hown
    cases A with
    | none =>
      obtain ⟨v', w', hr, h2, h3, _, h5⟩ := r0 ⟨0, 0, none⟩ 0 cap [] (by simp) (by simp) (by simp) h63 hbytes hbase
      refine ⟨v', w', ?_, h2, h3, h5⟩
      have hq := append_nil_run (P := P) w base t ty e i size ht hi v n xs hown cap
      exact hq.trans hr
    | some ad =>
      obtain ⟨v', w', hr, h2, h3, _, h5⟩ := r0 ad 0 cap [] (by simp) (by simp) (by simp) h63 hbytes hbase
      exact ⟨v', w', hr, h2, h3, h5⟩
  · obtain ⟨b, off, rfl, _, hcl⟩ := hcell hne
    obtain ⟨v', w', hr, h2, h3, _, h5⟩ := run_append_own_at (P := P) w base t ty e i z size bytes ht hi hz hsize hby hzs hsz v n xs hown ⟨b, off, none⟩ l.length cap (l.flatMap cells) hl (fun j y hy => by
      obtain ⟨x, hx, hu⟩ := flat_get hc hsz l j y hy
      have := hcl _ x hx _ y hu
      have e1 : (⟨b, off, none⟩ : Addr).add j = ⟨b, off + j, none⟩ := by
        unfold Addr.add
        by_cases h : j = 0 <;> simp [h]
      have e2 : off + j / size * size + j % size = off + j := by
        have := Nat.div_add_mod j size
        rw [Nat.mul_comm] at this
        omega
      rw [e1, ← e2]
      exact this) ho1 h63 hbytes hbase
    exact ⟨v', w', hr, h2, h3, h5⟩
end
structure KillInv2 (ops : Array Oper) (Fs : List FactK) (n p : Nat) (kill : Nat → Bool) (w0 : World) (L : Nat → Bool) (vs : Nat → Value) (w : World) : Prop where
  below : Below w0.heap.size w0 w
  each : ∀ d, d < n → L d = true → (L p = true → kill d = false) → (Fs.getD d FactK.any).p (vs d) w
  waits : L p = true → ∀ d, d < n → Region.waitsFor .any ops p d = true → L d = true
  later : ∀ d, d < n → leansAt ops d p = true → L d = true → L p = true
/-- **A region that draws its order, whose operation p spoils some of the facts.** -/
theorem wp_region_kill2 {P : Program} {id : Nat} {Q : Exit → Act → World → Prop} {a0 : Act} {w0 : World} {l : List Oper} (n p : Nat) (kill keep : Nat → Bool) (Fs : List FactK) (A : (Nat → Value) → Act)
    (hm : P.follows .mixedOrders = true) (hB : factsB .any l.toArray n = true) (hk : killB l.toArray n p kill = true) (hfree : ((List.range n).all fun d => d == p || kill d || ((Fs.getD d FactK.any).free || (leansAt l.toArray d p || keep d))) = true) (hA : ∀ vs, putAll (fun _ => true) vs 0 (l.take n) a0 = A vs)
    (hstep : ∀ (vs : Nat → Value), Each (fun i o => i ≠ p → ∀ w : World, Below w0.heap.size w0 w → (∀ d, d < n → leansOn l.toArray o d = true → (Fs.getD d FactK.any).p (vs d) w) →
      Region.wanted o (yielded l.toArray (A vs).tmps) = true ∧ Gives P o (A vs) w (fun v w' => Below w.heap.size w w' ∧ (Fs.getD i FactK.any).p v w')) 0 (l.take n))
    (hp : ∀ (vs : Nat → Value) (o : Oper), l[p]? = some o → ∀ w : World, Below w0.heap.size w0 w → (∀ d, d < n → leansOn l.toArray o d = true → (Fs.getD d FactK.any).p (vs d) w) →
      Region.wanted o (yielded l.toArray (A vs).tmps) = true ∧ Gives P o (A vs) w (fun v w' => Below w0.heap.size w0 w' ∧ (Fs.getD p FactK.any).p v w' ∧ ∀ d, keep d = true → ∀ u, (Fs.getD d FactK.any).p u w → (Fs.getD d FactK.any).p u w'))
    (htail : ∀ (vs : Nat → Value) (w : World), Below w0.heap.size w0 w → (∀ d, d < n → kill d = false → (Fs.getD d FactK.any).p (vs d) w) → wpList P l.toArray Q (l.drop n) (A vs) w) :
    (Code.region id l.toArray true).wp P Q a0 w0 := by
  refine wp_region_any hm ?_
  have hn : n ≤ l.toArray.size := by
    simp only [factsB, Bool.and_eq_true, decide_eq_true_eq] at hB
    exact hB.1.1.1.2
  simp only [killB, Bool.and_eq_true, decide_eq_true_eq, Bool.not_eq_true'] at hk
  obtain ⟨⟨hpn, hkp⟩, hk3⟩ := hk
  have inv0 : HeadInv .any l.toArray n (Array.replicate l.toArray.size false) :=
    ⟨by simp, fun j oj _ hl => (by rw [getD_replicate_false] at hl; cases hl), fun t _ ht => getD_in (by simpa using ht) (getD_replicate_false _ _)⟩
  have hun : unl n (Array.replicate l.toArray.size false) = n := by
    unfold unl
    rw [List.countP_eq_length.2]
    · simp
    · intro i _; rw [getD_replicate_false]; rfl
  have hput : putAll (fun i => (Array.replicate l.toArray.size false).getD i false) (fun _ => undef) 0 (l.take n) a0 = a0 := by
    have hg : ∀ (l' : List Oper) (k : Nat) (a : Act), putAll (fun i => (Array.replicate l.toArray.size false).getD i false) (fun _ => undef) k l' a = a := by
      intro l'
      induction l' with
      | nil => intro k a; rfl
      | cons o r ih => intro k a; unfold putAll; rw [getD_replicate_false, if_neg (by simp)]; exact ih _ _
    exact hg _ _ _
  have h0 : KillInv2 l.toArray Fs n p kill w0 (fun i => (Array.replicate l.toArray.size false).getD i false) (fun _ => undef) w0.drew :=
    ⟨(Below.refl _ _).drew, (fun d _ h => by simp only [getD_replicate_false] at h; cases h), (fun h => by simp only [getD_replicate_false] at h; cases h), (fun d _ _ h => by simp only [getD_replicate_false] at h; cases h)⟩
  have := wpAny_inv2 (P := P) (md := .any) (ops := l.toArray) (Q := Q) (n := n) (a0 := a0) hB (KillInv2 l.toArray Fs n p kill w0) (fun i o hi ho L vs w hLi hdep hwait hI => ?_) (fun L vs w hall hI => ?_) n (Array.replicate l.toArray.size false) (fun _ => undef) w0.drew inv0 hun h0
  · rw [hput, show n + (l.toArray.size - n) = l.toArray.size by omega] at this
    exact this
  · have hAA : putAll (fun _ => true) vs 0 (l.toArray.toList.take n) a0 = A vs := hA vs
    rw [hAA]
    have hset : ∀ {j : Nat}, j ≠ i → (if j = i then true else L j) = L j := fun h => if_neg h
    have hdeps : ∀ d, d < n → leansOn l.toArray o d = true → (Fs.getD d FactK.any).p (vs d) w := fun d hd hl => by
      refine hI.each d hd (hdep d hd hl) fun hLp => ?_
      cases hkd : kill d with
      | false => rfl
      | true =>
        exfalso
        have h1 := List.all_eq_true.1 (List.all_eq_true.1 hk3 i (List.mem_range.2 hi)) d (List.mem_range.2 hd)
        have h2 : leansAt l.toArray i d = true := by unfold leansAt; rw [ho]; exact hl
        rw [hkd, h2] at h1
        simp only [Bool.not_true, Bool.false_or, Bool.or_false, Bool.or_eq_true, beq_iff_eq] at h1
        rcases h1 with h1 | h1
        · rw [h1] at hLi
          rw [hLi] at hLp
          cases hLp
        · have := hI.waits hLp i hi h1
          rw [hLi] at this
          cases this
    by_cases hip : i = p
    · subst hip
      have h1 := hp vs o (by simpa using ho) w hI.below hdeps
      rw [if_pos h1.1]
      refine h1.2.mono fun v w' ⟨hb, hf, hkp⟩ => ⟨hb, fun d hd hl hki => ?_, fun _ d hd hl => ?_, fun _ _ _ _ => if_pos rfl⟩
      · by_cases hdi : d = i
        · subst hdi
          rw [if_pos rfl]
          exact hf
        · rw [hset hdi] at hl
          rw [if_neg hdi]
          have hfd := List.all_eq_true.1 hfree d (List.mem_range.2 hd)
          rw [hki (if_pos rfl)] at hfd
          simp only [Bool.or_false, Bool.or_eq_true, beq_iff_eq] at hfd
          rcases hfd.resolve_left hdi with hfd | hfd | hfd
          · exact (Fs.getD d FactK.any).fr hfd _ _ _ (hI.each d hd hl fun h => by rw [hLi] at h; cases h)
          · have := hI.later d hd hfd hl
            rw [hLi] at this
            cases this
          · exact hkp d hfd _ (hI.each d hd hl fun h => by rw [hLi] at h; cases h)
      · by_cases hdi : d = i
        · rw [if_pos hdi]
        · rw [if_neg hdi]
          exact hwait d hd hl
    · have hE := Each.get (hstep vs) i o (by rw [List.getElem?_take, if_pos hi]; simpa using ho)
      rw [Nat.zero_add] at hE
      have h1 := hE hip w hI.below hdeps
      rw [if_pos h1.1]
      refine h1.2.mono fun v w' ⟨hb, hv⟩ => ⟨up_later hI.below hb, fun d hd hl hki => ?_, fun hl d hd hwf => ?_, fun d hd hlp hl => ?_⟩
      · rw [hset (Ne.symm hip)] at hki
        by_cases hdi : d = i
        · subst hdi
          rw [if_pos rfl]
          exact hv
        · rw [hset hdi] at hl
          rw [if_neg hdi]
          exact (Fs.getD d FactK.any).st _ _ _ (hI.each d hd hl hki) hb
      · rw [hset (Ne.symm hip)] at hl
        by_cases hdi : d = i
        · rw [if_pos hdi]
        · rw [if_neg hdi]
          exact hI.waits hl d hd hwf
      · rw [hset (Ne.symm hip)]
        by_cases hdi : d = i
        · subst hdi
          refine hdep p hpn ?_
          unfold leansAt at hlp
          rw [ho] at hlp
          exact hlp
        · rw [hset hdi] at hl
          exact hI.later d hd hlp hl
  · have hAA : putAll (fun _ => true) vs 0 (l.toArray.toList.take n) a0 = A vs := hA vs
    rw [hAA]
    exact htail vs w hI.below fun d hd hkd => hI.each d hd (hall d hd) fun _ => hkd

def FactK.ptr (n0 t : Nat) (cs : Array Value) : FactK := ⟨fun v w => ∃ g, v = .pointer (some ⟨g, 0, none⟩) ∧ Box w g t cs ∧ n0 ≤ g, fun _ _ _ ⟨g, h, h1, h2⟩ hb => ⟨g, h, h1.kept hb, h2⟩, false, fun h => by cases h⟩
def FactK.agg1 (n0 e sz n : Nat) (xs : List Value) : FactK := ⟨fun v w => ∃ A m p, v = .agg #[.slice A m p] ∧ w.ownsRow n0 e sz (.slice A m p) n xs, fun _ _ _ ⟨A, m, p, h, h1⟩ hb => ⟨A, m, p, h, own_below h1 hb⟩, false, fun h => by cases h⟩
end Go.Proofs.YtonekgefegfapaaGreat

namespace Go.Proofs.YtonekgefegfapaaGreat
open Go.RowKit

set_option maxRecDepth 100000 in
set_option maxHeartbeats 4000000 in
theorem order_law (v : Value) (l : List ByteArray) (r : ByteArray) (x y z : Int) (w : World) (hl : RowsAny w v 1 sc l) (bx : 0 ≤ x ∧ x ≤ 255) (by_ : 0 ≤ y ∧ y ≤ 255) (bz : 0 ≤ z ∧ z ≤ 255) : Calls Tryz.prog 16 #[.agg #[v], .string r, .int .u8 x, .int .u8 y, .int .u8 z] w fun e w' => e = .returned (.bool true) ∧ Below w.heap.size w w' := by
  obtain ⟨A, cap, hv, hcap, hmax⟩ := hl.form
  subst hv
  have HL := Lib.hid hl
  clear hl
  cases hrd : readyB l [] with
  | false =>
    have HRd := Lib.hid hrd
    clear hrd
    go_enter Tryz.func16, Tryz.ntmps16
    have B1 := Box.new (w := w) (t := 24) (cs := #[.slice A l.length cap]) rfl
    have c1 := fun i => B1.cell i
    go_wp2_with fail
    refine (ready_any _ _ l [] _ (HL.out.kept (up_alloc up0 _)) ⟨none, 0, rfl, Nat.zero_le _, Nat.zero_le _, fun h => absurd rfl h⟩).mono ?_
    rintro e w1 ⟨rfl, hb1⟩
    rw [HRd.out]
    have hB1 := up_later (up_alloc up0 _) hb1
    have B1 := B1.kept hb1
    have c1 := fun i => B1.cell i
    clear hb1
    go_wp2_with fail
    refine (awake_any _).mono ?_
    rintro e w9 ⟨rfl, hb9⟩
    go_wp2_with fail
    go_ret
    exact ⟨rfl, up_later hB1 hb9⟩
  | true =>
    have HRd := Lib.hid hrd
    obtain ⟨h6, hcb, hce, -, -, -⟩ := readyB_ok hrd
    obtain ⟨C, hC⟩ : ∃ C, signsE [r, ⟨#[]⟩] = C := ⟨_, rfl⟩
    have HC := Lib.hid hC
    by_cases hC0 : C = 0
    case neg =>
      have e1 : (C == 0) = false := beq_eq_false_iff_ne.2 hC0
      have e2 : (C != 0) = true := by rw [bne, e1]; rfl
      clear hC hC0 hrd hce hcb
      go_enter Tryz.func16, Tryz.ntmps16
      have B1 := Box.new (w := w) (t := 24) (cs := #[.slice A l.length cap]) rfl
      have c1 := fun i => B1.cell i
      go_wp2_with fail
      refine (ready_any _ _ l [] _ (HL.out.kept (up_alloc up0 _)) ⟨none, 0, rfl, Nat.zero_le _, Nat.zero_le _, fun h => absurd rfl h⟩).mono ?_
      rintro e w1 ⟨rfl, hb1⟩
      rw [HRd.out]
      have hB1 := up_later (up_alloc up0 _) hb1
      have B1 := B1.kept hb1
      have c1 := fun i => B1.cell i
      clear hb1
      go_wp2_with fail
      refine (signed_any r ⟨#[]⟩ _).mono ?_
      rintro e w2 ⟨rfl, hb2⟩
      rw [HC.out]
      have hB2 := up_later hB1 hb2
      have B1 := B1.kept hb2
      have c1 := fun i => B1.cell i
      clear hb2 hB1
      go_wp2_with fail
      refine (awake_any _).mono ?_
      rintro e w9 ⟨rfl, hb9⟩
      go_wp2_with fail
      go_ret
      exact ⟨rfl, up_later hB2 hb9⟩
    subst hC0
    by_cases h4 : (l.length : Int) ≤ 4
    case neg =>
      have h4d : decide ((4 : Int) < (l.length : Int)) = true := decide_eq_true (by omega)
      have h4n : (4 : Int) < (l.length : Int) := by omega
      clear hC hrd hce hcb
      go_enter Tryz.func16, Tryz.ntmps16
      have B1 := Box.new (w := w) (t := 24) (cs := #[.slice A l.length cap]) rfl
      have c1 := fun i => B1.cell i
      go_wp2_with fail
      refine (ready_any _ _ l [] _ (HL.out.kept (up_alloc up0 _)) ⟨none, 0, rfl, Nat.zero_le _, Nat.zero_le _, fun h => absurd rfl h⟩).mono ?_
      rintro e w1 ⟨rfl, hb1⟩
      rw [HRd.out]
      have hB1 := up_later (up_alloc up0 _) hb1
      have B1 := B1.kept hb1
      have c1 := fun i => B1.cell i
      clear hb1
      go_wp2_with fail
      refine (signed_any r ⟨#[]⟩ _).mono ?_
      rintro e w2 ⟨rfl, hb2⟩
      rw [HC.out]
      have hB2 := up_later hB1 hb2
      have B1 := B1.kept hb2
      have c1 := fun i => B1.cell i
      clear hb2 hB1
      go_wp2_with fail
      refine (awake_any _).mono ?_
      rintro e w9 ⟨rfl, hb9⟩
      go_wp2_with fail
      go_ret
      exact ⟨rfl, up_later hB2 hb9⟩
    have h4d : decide ((4 : Int) < (l.length : Int)) = false := decide_eq_false (by omega)
    have h4n : ¬ (4 : Int) < (l.length : Int) := by omega
    obtain ⟨k1, -, k3, -⟩ := signs_one' hC
    have hl0 : 0 < l.length := by
      unfold codeB at hcb
      simp only [Bool.and_eq_true, decide_eq_true_eq] at hcb
      exact hcb.1
    obtain ⟨ka, hka⟩ : ∃ k : Int, x.tmod 4 = k := ⟨_, rfl⟩
    obtain ⟨na, hna⟩ : ∃ n : Int, y.tmod 4 = n := ⟨_, rfl⟩
    obtain ⟨k, hk⟩ : ∃ k : Nat, z.toNat % l.length = k := ⟨_, rfl⟩
    have hkn : k < l.length := by rw [← hk]; exact Nat.mod_lt _ hl0
    have hZ : z.tmod (l.length : Int) = (k : Int) := by
      rw [Int.tmod_eq_emod_of_nonneg bz.1, ← hk, Int.natCast_emod, Int.toNat_of_nonneg bz.1]
    have ka3 : 0 ≤ ka ∧ ka ≤ 3 := by rw [← hka, Int.tmod_eq_emod_of_nonneg bx.1]; omega
    have na3 : 0 ≤ na ∧ na ≤ 3 := by rw [← hna, Int.tmod_eq_emod_of_nonneg by_.1]; omega
    have HSO := signs_one k1 k3
    have HR4 := Lib.hid (show r.data.toList.length ≤ 40 by rw [← Lib.size_eq]; exact k1)
    have H1 := Lib.hid (textsE_ok (l := l) (r := r) (E := ka) (K := na) hce HSO (by omega) (by omega))
    have H2 := Lib.hid (textsE_ok (l := rotB k l) (r := r) (E := ka) (K := na) (code_rot hce) HSO (by omega) (by omega))
    have HKL := Lib.hid hkn
    have cz : ¬ (l.length : Int) = 0 := by omega
    have cz' : ((l.length : Int) == 0) = false := by rw [beq_eq_false_iff_ne]; omega
    have k0 : (0 : Int) ≤ (k : Int) := by omega
    have k1' : (k : Int) < (l.length : Int) := by omega
    have k2' : (k : Int) ≤ (l.length : Int) := by omega
    have hcap2 : l.length ≤ 1000 := by omega
    clear hC hrd hce hcb hk HSO k3
    go_enter Tryz.func16, Tryz.ntmps16
    have B1 := Box.new (w := w) (t := 24) (cs := #[.slice A l.length cap]) rfl
    have c1 := fun i => B1.cell i
    go_wp2_with fail
    refine (ready_any _ _ l [] _ (HL.out.kept (up_alloc up0 _)) ⟨none, 0, rfl, Nat.zero_le _, Nat.zero_le _, fun h => absurd rfl h⟩).mono ?_
    rintro e w1 ⟨rfl, hb1⟩
    rw [HRd.out]
    have hB1 := up_later (up_alloc up0 _) hb1
    have B1 := B1.kept hb1
    have c1 := fun i => B1.cell i
    clear hb1
    go_wp2_with fail
    refine (signed_any r ⟨#[]⟩ _).mono ?_
    rintro e w2 ⟨rfl, hb2⟩
    rw [HC.out]
    have hB2 := up_later hB1 hb2
    have B1 := B1.kept hb2
    have c1 := fun i => B1.cell i
    clear hb2 hB1
    go_wp2_with fail
    obtain ⟨i3, hi3, hz30, hz31, hz32⟩ := info_parts str_info
    obtain ⟨V3, v3, v4⟩ := rows_from (P := Tryz.prog) (cells := sc) (sz := 1) (A := A) (cap := cap) (l := l) (r := k) Tryz.underlying22 hi3 hz31 (by omega) .i64
    obtain ⟨V4, v5, v6⟩ := rows_upto (P := Tryz.prog) (cells := sc) (sz := 1) (A := A) (cap := cap) (l := l) (r := k) Tryz.underlying22 hi3 (by omega) hcap .i64
    have HV3 := Lib.hid v3
    have HV4 := Lib.hid v4
    have HV5 := Lib.hid v5
    have HV6 := Lib.hid v6
    have HT := Lib.hid ((HL.out.kept hB2).rows hcap2)
    have hlt2 : w.heap.size < w2.heap.size := B1.lt
    clear v3 v4 v5 v6
    apply wp_region_kill2 13 10 (fun d => d == 0 || d == 5) (fun d => d == 12) [(FactK.sl w2.heap.size 0 9 #[]), (FactK.eq _), (FactK.eq _), (FactK.eq _), (FactK.eq V3), (FactK.own w2.heap.size 9 1 (l.drop k).length ((l.drop k).flatMap sc)), (FactK.eq _), (FactK.eq _), (FactK.eq _), (FactK.eq V4), (FactK.own w2.heap.size 9 1 (rotB k l).length ((rotB k l).flatMap sc)), (FactK.agg1 w2.heap.size 9 1 (rotB k l).length ((rotB k l).flatMap sc)), (FactK.ptr w2.heap.size 24 #[.slice none 0 0])]
    case hm => kernel_rfl
    case hB => kernel_rfl
    case hk => kernel_rfl
    case hA => (intro vs; simp only [List.take_succ_cons, List.take_zero, putAll, if_true, Act.put, List.setIfInBounds_toArray, List.set_cons_zero, List.set_cons_succ]; exact rfl)
    case hstep =>
      intro vs
      refine And.intro (fun _ w hw hd => ?_) ?_
      · refine ⟨rfl, ?_⟩
        simp only [Gives]
        go_simp
        exact ⟨(Below.refl _ _).alloc (Nat.le_refl _) _, ⟨_, rfl, Box.new rfl, hw.size⟩⟩
      refine And.intro (fun _ w hw hd => ?_) ?_
      · refine ⟨rfl, ?_⟩
        simp only [Gives]
        go_simp
        exact ⟨Below.refl _ _, rfl⟩
      refine And.intro (fun _ w hw hd => ?_) ?_
      · have d1 := hd 1 (by decide) rfl
        change vs 1 = _ at d1
        refine ⟨rfl, ?_⟩
        have c_B1 := fun i => (B1.kept hw).cell i
        simp only [Gives]
        go_simp
        exact ⟨Below.refl _ _, rfl⟩
      refine And.intro (fun _ w hw hd => ?_) ?_
      · refine ⟨rfl, ?_⟩
        simp only [Gives]
        go_simp
        exact ⟨Below.refl _ _, rfl⟩
      refine And.intro (fun _ w hw hd => ?_) ?_
      · have d2 := hd 2 (by decide) rfl
        change vs 2 = _ at d2
        have d3 := hd 3 (by decide) rfl
        change vs 3 = _ at d3
        refine ⟨rfl, ?_⟩
        simp only [Gives]
        refine gives_slice 22 (.tmp 45) (some (.tmp 46)) none rfl (.slice A l.length cap) V3 (some (.int .i64 k)) none ?_ ?_ rfl (HV3.out _) ⟨Below.refl _ _, rfl⟩
        all_goals (go_simp)
      refine And.intro (fun _ w hw hd => ?_) ?_
      · have d0 := hd 0 (by decide) rfl
        obtain ⟨n0, d0, N0, K0⟩ := d0
        have d4 := hd 4 (by decide) rfl
        change vs 4 = _ at d4
        refine ⟨rfl, ?_⟩
        simp only [Gives]
        obtain ⟨Aa, ma, pa, wa, hra, hoa, hba⟩ := run_append_fresh (P := Tryz.prog) w _ 22 22 9 i3 _ 1 16 Tryz.underlying22 hi3 hz30 hz31 hz32 rfl (by decide) n0 N0 K0 sc (l.drop k) _ (HV4.out _ (HT.out.kept hw)) (fun _ => rfl) (by rw [List.length_drop]; omega)
        refine gives_append (.tmp 43) (.tmp 47) 22 rfl _ _ _ ?_ ?_ hra ⟨hba, ⟨_, _, _, rfl, hoa⟩⟩
        all_goals (go_simp)
      refine And.intro (fun _ w hw hd => ?_) ?_
      · refine ⟨rfl, ?_⟩
        simp only [Gives]
        go_simp
        exact ⟨Below.refl _ _, rfl⟩
      refine And.intro (fun _ w hw hd => ?_) ?_
      · have d6 := hd 6 (by decide) rfl
        change vs 6 = _ at d6
        refine ⟨rfl, ?_⟩
        have c_B1 := fun i => (B1.kept hw).cell i
        simp only [Gives]
        go_simp
        exact ⟨Below.refl _ _, rfl⟩
      refine And.intro (fun _ w hw hd => ?_) ?_
      · refine ⟨rfl, ?_⟩
        simp only [Gives]
        go_simp
        exact ⟨Below.refl _ _, rfl⟩
      refine And.intro (fun _ w hw hd => ?_) ?_
      · have d7 := hd 7 (by decide) rfl
        change vs 7 = _ at d7
        have d8 := hd 8 (by decide) rfl
        change vs 8 = _ at d8
        refine ⟨rfl, ?_⟩
        simp only [Gives]
        refine gives_slice 22 (.tmp 50) none (some (.tmp 51)) rfl (.slice A l.length cap) V4 none (some (.int .i64 k)) ?_ rfl ?_ (HV5.out _) ⟨Below.refl _ _, rfl⟩
        all_goals (go_simp)
      refine And.intro (fun h => absurd rfl h) ?_
      refine And.intro (fun _ w hw hd => ?_) ?_
      · have d10 := hd 10 (by decide) rfl
        obtain ⟨Ag, mg, pg, d10, OG⟩ := d10
        refine ⟨rfl, ?_⟩
        simp only [Gives]
        go_simp
        exact ⟨Below.refl _ _, ⟨_, _, _, rfl, OG⟩⟩
      refine And.intro (fun _ w hw hd => ?_) ?_
      · refine ⟨rfl, ?_⟩
        simp only [Gives]
        go_simp
        exact ⟨(Below.refl _ _).alloc (Nat.le_refl _) _, ⟨_, rfl, Box.new rfl, hw.size⟩⟩
      exact trivial
    case hp =>
      intro vs o ho w hw hd
      obtain rfl := Option.some.inj ho
      have d5 := hd 5 (by decide) rfl
      obtain ⟨Af, mf, pf, d5, O5⟩ := d5
      have d9 := hd 9 (by decide) rfl
      change vs 9 = _ at d9
      refine ⟨rfl, ?_⟩
      simp only [Gives]
      obtain ⟨v', w', hra, hoa, hga, hat⟩ := run_append_rows (P := Tryz.prog) (w := w) _ 22 22 9 i3 _ 1 16 Tryz.underlying22 hi3 hz30 hz31 hz32 rfl (by decide) _ _ _ O5 sc (l.take k) _ (HV6.out _ (HT.out.kept hw)) (fun _ => rfl) (fun x hx y hy => (by obtain rfl := List.mem_singleton.1 hy; rfl)) (by rw [List.length_drop, List.length_take]; unfold maxLen; omega) (by rw [List.length_drop, List.length_take]; omega) hw.size
      obtain ⟨Ag, mg, pg, rfl⟩ := own_form hoa
      refine gives_append (.tmp 48) (.tmp 52) 22 rfl _ _ _ ?_ ?_ hra ⟨hw.grown hga hw.size (fun b e => (O5.lt b e).1), ⟨_, _, _, rfl, own_rotB hoa⟩, ?_⟩
      case refine_3 => (intro d hk; obtain rfl : d = 12 := (by simpa using hk); rintro u ⟨g, rfl, hB, hg⟩; exact ⟨g, rfl, hB.grown hga (box_not_own hB (by decide) O5), hg⟩)
      all_goals (go_simp)
    case hfree => rfl
    intro vs wt hw hd
    have d1 := hd 1 (by decide) rfl
    change vs 1 = _ at d1
    have d2 := hd 2 (by decide) rfl
    change vs 2 = _ at d2
    have d3 := hd 3 (by decide) rfl
    change vs 3 = _ at d3
    have d4 := hd 4 (by decide) rfl
    change vs 4 = _ at d4
    have d6 := hd 6 (by decide) rfl
    change vs 6 = _ at d6
    have d7 := hd 7 (by decide) rfl
    change vs 7 = _ at d7
    have d8 := hd 8 (by decide) rfl
    change vs 8 = _ at d8
    have d9 := hd 9 (by decide) rfl
    change vs 9 = _ at d9
    have d10 := hd 10 (by decide) rfl
    obtain ⟨Ag, mg, pg, d10, OG⟩ := d10
    have d11 := hd 11 (by decide) rfl
    obtain ⟨Ac, mc, pc, d11, OC⟩ := d11
    have d12 := hd 12 (by decide) rfl
    obtain ⟨gX, d12, BX, hgX⟩ := d12
    simp only [d1, d2, d3, d4, d6, d7, d8, d9, d10, d11, d12, List.drop_succ_cons, List.drop_zero]
    have B1 := B1.kept hw
    clear hd d1 d2 d3 d4 d6 d7 d8 d9 d10 d11 d12
    have cX := fun i => BX.cell i
    have fX := fun i => BX.free i
    go_upto_region 6 with fail
    clear cX fX c1
    have hne : w.heap.size ≠ gX := by omega
    have hBq := up_put (up_later hB2 hw) (p := ⟨gX, 0, none⟩) (by simp; omega) (.slice Ac mc pc)
    have b2 := BX.put 0 (.slice Ac mc pc)
    simp only [List.setIfInBounds_toArray, List.set_cons_zero] at b2
    have b1 := B1.far (p := ⟨gX, 0, none⟩) hne (.slice Ac mc pc)
    have hx := rows_any (RowsAt.of_ownM (cells := sc) (fun _ => rfl) (own_set OC BX (by decide) (i := 0) (u := .slice Ac mc pc)) rfl (by rw [rotB_len]; exact hcap2))
    generalize hwq : wt.setCell ⟨gX, 0, none⟩ (.slice Ac mc pc) = wq at hBq b1 b2 hx ⊢
    have HX := Lib.hid hx
    clear hx hwq OC BX hw HT HV3 HV4 HV5 HV6 B1 hB2 OG
    have B1 := b1
    have B2 := b2
    have c1 := fun i => B1.cell i
    have c2 := fun i => B2.cell i
    have hB := hBq
    clear b1 b2 hBq
    go_wp2_with fail
    refine (Code_any _ l _ ((HL.out.kept hB).rows hcap2)).mono ?_
    rintro e wa ⟨ua, rfl, hua, hba⟩
    have hB' := up_later hB hba
    have B1 := B1.kept hba
    have B2 := B2.kept hba
    have HX := Lib.hid (HX.out.kept hba)
    have c1 := fun i => B1.cell i
    have c2 := fun i => B2.cell i
    clear hba hB
    go_wp2_with fail
    refine (Texts_any ua l r ka na _ hua).mono ?_
    rintro e wb ⟨u1, ps1, rfl, hp, hi, -, hb⟩
    rw [H1.out]
    obtain ⟨A1, c1', hf, -, -⟩ := hp.1.form
    subst hf
    have hB := up_later hB' hb
    have B1 := B1.kept hb
    have B2 := B2.kept hb
    have HX := Lib.hid (HX.out.kept hb)
    have c1 := fun i => B1.cell i
    have c2 := fun i => B2.cell i
    have T1 := Lib.hid hp
    have I1 := Lib.hid (hi H1.out)
    clear hp hi hua hB' hb
    go_wp2_with fail
    refine (Code_any _ (rotB k l) _ (HX.out.rows (by rw [rotB_len]; exact hcap2))).mono ?_
    rintro e wc ⟨uc, rfl, huc, hbc⟩
    have hB' := up_later hB hbc
    have T1 := Lib.hid (T1.out.kept hbc)
    clear hbc hB c1 c2 B1 B2 HX
    go_wp2_with fail
    refine (Texts_any uc (rotB k l) r ka na _ huc).mono ?_
    rintro e wd ⟨u2, ps2, rfl, hp, hi, -, hb⟩
    rw [H2.out]
    have hB := up_later hB' hb
    have T1 := Lib.hid (T1.out.kept hb)
    have HPm := Lib.hid (texts_rot HR4.out (by omega) HKL.out I1.out (hi H2.out))
    have hpe : ps2.length = ps1.length := by
      have := HPm.out.length_eq
      simpa using this.symm
    obtain ⟨A2, c2', hf, -, -⟩ := hp.1.form
    rw [hpe] at hf
    subst hf
    have T2 := Lib.hid hp
    have HLet : Hid (∀ t ∈ ps1.map (·.2), t.length ≤ 3 ∧ ∀ y ∈ t, letB l.length y = true) := Lib.hid fun t ht => by
      have := (texts_iff HR4.out (by omega) I1.out t).1 ht
      exact ⟨by omega, this.2.1⟩
    have HIn : Hid (∀ t ∈ ps1.map (·.2), t.map (toN l.length k) ∈ ps2.map (·.2)) := Lib.hid fun t ht => HPm.out.mem_iff.1 (List.mem_map.2 ⟨t, ht, rfl⟩)
    have hp9 : ps1.length ≤ 9223372036854775807 := by
      obtain ⟨A, c, _, h1, h2⟩ := T1.out.1.form
      omega
    clear hp hi huc hB' hb hpe HPm I1
    obtain ⟨j0, hj0, hz0, hz1, hz2⟩ := info_parts int_info
    have und25 := Tryz.underlying25
    go_wp2_with fail
    go_loopw [18, 19, 20] (fun i _ _ wr => ∃ j : Nat, j ≤ ps1.length ∧ i = iv j ∧ Hid (TextsAny wr (.slice A1 ps1.length c1') ps1) ∧ Hid (TextsAny wr (.slice A2 ps1.length c2') ps2) ∧ Below w.heap.size w wr) (fun i _ _ _ => ps1.length - (intOf i).toNat)
    case atStart => exact ⟨0, by omega, rfl, T1, T2, hB⟩
    case round =>
      obtain ⟨j, hj, rfl, T1, T2, hB⟩ := hrel
      obtain ⟨wo, hwo⟩ : ∃ wo, wo = wr := ⟨_, rfl⟩
      subst hwo
      by_cases hlt : j < ps1.length
      · have hlt' : (j : Int) < (ps1.length : Int) := by omega
        have j0' : (0 : Int) ≤ (j : Int) := by omega
        obtain ⟨⟨xv, x⟩, hx⟩ : ∃ x, ps1[j]? = some x := ⟨_, List.getElem?_eq_getElem hlt⟩
        have hx1 : (ps1.map (·.2))[j]? = some x := by rw [List.getElem?_map, hx]; rfl
        obtain ⟨b, off, rfl, hb, q0, r0⟩ := T1.out.at hx
        obtain ⟨xA, xc, hxv, -, -⟩ := r0.form
        simp only at hxv q0
        subst hxv
        obtain ⟨hx3, hxl⟩ := HLet.out x (List.mem_of_getElem? hx1)
        have HIx := Lib.hid (show decide (x.map (toN l.length k) ∈ ps2.map (·.2)) = true from decide_eq_true (HIn.out x (List.mem_of_getElem? hx1)))
        have R0 := Lib.hid r0
        have HXL := Lib.hid hxl
        clear hx hx1 r0 hxl
        go_wp2_with fail
        go_loopw [19, 20] (fun t n wq => ∃ m : Nat, m ≤ x.length ∧ n = iv m ∧ Hid (wq.ownsRow wo.heap.size 3 1 t m ((x.take m).map fun y => iv (toN l.length k y))) ∧ Below wo.heap.size wo wq) (fun _ n _ => x.length - (intOf n).toNat)
        case atStart => exact ⟨0, by omega, rfl, Lib.hid ⟨by simp, .inl ⟨rfl, by simp⟩⟩, Below.refl _ _⟩
        case round =>
          obtain ⟨m, hm, rfl, HO, hBi⟩ := hrel
          have p0 := (hBi.cell (p := ⟨b, off + j, none⟩) hb).trans q0
          by_cases hml : m < x.length
          · have hml' : (m : Int) < (x.length : Int) := by omega
            have m0 : (0 : Int) ≤ (m : Int) := by omega
            obtain ⟨y, hy⟩ : ∃ y, x[m]? = some y := ⟨_, List.getElem?_eq_getElem hml⟩
            obtain ⟨b5, off5, rfl, hb5, hc5⟩ := (R0.out.kept hBi).at rfl hy
            have q5 := hc5 0 _ rfl
            simp only [Nat.mul_one, Nat.add_zero] at q5
            have hyl := letB_iff.1 (HXL.out y (List.mem_of_getElem? hy))
            obtain ⟨y0, y1⟩ := hyl
            have hW1 : IntKind.i64.wrap (y + (l.length : Int)) = y + (l.length : Int) := wrapK_in _ 3000 (by omega) (by omega)
            have hW2 : IntKind.i64.wrap (y + (l.length : Int) - (k : Int)) = y + (l.length : Int) - (k : Int) := wrapK_in _ 3000 (by omega) (by omega)
            obtain ⟨T, hT⟩ : ∃ T, toN l.length k y = T := ⟨_, rfl⟩
            have hRm : (y + (l.length : Int) - (k : Int)).tmod (l.length : Int) = T := by
              have := toN_rem (n := l.length) (k := k) (a := y.toNat) HKL.out
              rw [show ((y.toNat : Nat) : Int) = y by omega] at this
              rw [this, hT]
            have Hx := Lib.hid (show ((x.take (m + 1)).map fun y => iv (toN l.length k y)) = ((x.take m).map fun y => iv (toN l.length k y)) ++ [iv T] by rw [List.take_add_one, hy, ← hT]; simp)
            have hO' := own_below HO.out (w' := wr.alloc (.cells #[iv T] 3)) (up_alloc up0 _)
            have hzw := hBi.size
            obtain ⟨A3, m3, p3, hform⟩ := own_form HO.out
            subst hform
            clear hy hc5 hT
            go_wp2_with (at_builtin; refine wpList_append_own_at _ rfl (.tmp 109) (.tmp 123) 25 rfl wo.heap.size 3 j0 _ 1 8 und25 hj0 hz0 hz1 hz2 rfl (by decide) _ _ _ rfl (own_below HO.out (up_alloc up0 _)) ⟨wr.heap.size, 0, none⟩ 1 1 [iv T] rfl rfl (box_newsM (Box.new rfl)) (by simp [Value.oneCell']) (by unfold maxLen; omega) (by omega) (by simp; omega) ?_; intro v' w3 hown' hgrow _ _)
            go_roundw
            case rel => exact ⟨m + 1, by omega, by go_num, Lib.hid (by rw [Hx.out]; exact hown'), (up_alloc hBi _).grown hgrow (by simp; omega) (fun b' hb' => (hO'.lt b' hb').1)⟩
            case measure => simp [intOf]; omega
          · have hml' : ¬ (m : Int) < (x.length : Int) := by omega
            obtain rfl : m = x.length := by omega
            obtain ⟨A3, m3, p3, hform⟩ := own_form HO.out
            subst hform
            have HO2 := Lib.hid (show RowsAny wr (.slice A3 m3 p3) 1 ic (x.map (toN l.length k)) from rows_any (text_rows (B := wo.heap.size) (by
              have h := HO.out
              rw [List.take_length] at h
              rw [List.length_map, List.map_map]
              exact h) (by rw [List.length_map]; omega)))
            have hB9 := up_later hB hBi
            have T1 := Lib.hid (T1.out.kept hBi)
            have T2 := Lib.hid (T2.out.kept hBi)
            clear hBi
            go_wp2_with fail
            refine (has_any _ _ ps2 (x.map (toN l.length k)) _ T2.out HO2.out).mono ?_
            rintro e w7 ⟨rfl, hb7⟩
            rw [HIx.out]
            have hB7 := up_later hB9 hb7
            have T1 := Lib.hid (T1.out.kept hb7)
            have T2 := Lib.hid (T2.out.kept hb7)
            clear hb7 hB9
            go_wp2_with fail
            go_roundw
            case rel => exact ⟨j + 1, by omega, by go_num, T1, T2, hB7⟩
            case measure => simp [intOf]; omega
      · have hlt' : ¬ (j : Int) < (ps1.length : Int) := by omega
        go_wp2_with fail
        refine (awake_any _).mono ?_
        rintro e w9 ⟨rfl, hb9⟩
        go_wp2_with fail
        go_ret
        exact ⟨rfl, up_later hB hb9⟩
end Go.Proofs.YtonekgefegfapaaGreat

namespace Go.Proofs.YtonekgefegfapaaGreat
open Go.ChangeShapes Go.WideShapes Go.ChangeAt Go.RowKit

theorem und24 : Tryz.prog.underlying 24 = some (.struct (Tryz.prog.fieldsOf 24)) := by kernel_rfl
section
variable {H : Type} {enc : TypeId × Value → H} {W : World} {base : Nat} {spare : Nat → Bool} {held : Bool}
theorem open_str {fuel : Nat} {cs : List Value} {x : DataW H × List MemPlace} (h : DataW.trod enc Tryz.prog W base spare held fuel 9 cs = some x) : ∃ s : ByteArray, cs = sc s ∧ True := by
  obtain ⟨z, hz, _⟩ := DataW.trod_string Tryz.underlying9 h
  exact ⟨z, hz, trivial⟩
theorem open_words {fuel : Nat} {cs : List Value} {x : DataW H × List MemPlace} (h : DataW.trod enc Tryz.prog W base spare held fuel 22 cs = some x) : ∃ v l, cs = [v] ∧ RowsAny W v 1 sc l := by
  obtain ⟨v, l, e, r, _⟩ := open_rows (e := 9) (sz := 1) (cells := sc) (p := fun _ => True) (by kernel_rfl) (by kernel_rfl) (by omega) (fun _ _ _ h => open_str h) h
  exact ⟨v, l, e, r⟩
theorem open_code {fuel : Nat} {cs : List Value} {x : DataW H × List MemPlace} (h : DataW.trod enc Tryz.prog W base spare held fuel 24 cs = some x) : ∃ v l, cs = [v] ∧ RowsAny W v 1 sc l := by
  have hf : (Tryz.prog.fieldsOf 24).toList.map (fun f => (f.type, f.offset)) = [(22, 0)] := by kernel_rfl
  have hc : Tryz.prog.cellsOf 24 = 1 := by kernel_rfl
  obtain ⟨xs, m, _, _, hlen, hxs, hel⟩ := DataW.trod_struct und24 h
  generalize Tryz.prog.fieldsOf 24 = fs at hf hxs hel
  obtain ⟨fs⟩ := fs
  rcases fs with _ | ⟨f0, _ | ⟨f1, r⟩⟩ <;> simp at hf
  obtain ⟨t0, o0⟩ := hf
  have g0 := hel 0 f0 rfl
  have k22 : Tryz.prog.cellsOf 22 = 1 := by kernel_rfl
  rw [t0, o0, k22] at g0
  have hx1 : xs.length = 1 := by simpa using hxs
  obtain ⟨y0, hy0⟩ : ∃ y, xs[0]? = some y := ⟨_, List.getElem?_eq_getElem (by omega)⟩
  rw [hy0] at g0
  obtain ⟨v, l, e, r⟩ := open_words g0
  refine ⟨v, l, ?_, r⟩
  rw [hc] at hlen
  rcases cs with _ | ⟨a, _ | ⟨b, r⟩⟩ <;> simp at hlen
  exact e
theorem open_texts {fuel : Nat} {cs : List Value} {x : DataW H × List MemPlace} (h : DataW.trod enc Tryz.prog W base spare held fuel 50 cs = some x) : ∃ v ps, cs = [v] ∧ TextsAny W v ps := by
  obtain ⟨v, l, e, r, hp⟩ := open_rows (e := 25) (sz := 1) (cells := pc) (p := fun p => RowsAny W p.1 1 ic p.2) (by kernel_rfl) (by kernel_rfl) (by omega) (fun _ _ _ h => by
    obtain ⟨v, l, e, r⟩ := open_list h
    exact ⟨(v, l), e, r⟩) h
  exact ⟨v, l, e, r, hp⟩
end
end Go.Proofs.YtonekgefegfapaaGreat

namespace Go.Proofs.YtonekgefegfapaaGreat
open Go.ChangeShapes Go.WideShapes Go.ChangeAt Go.RowKit

set_option maxRecDepth 100000 in
theorem flashOrder_lifted (os : Os) (started : os.Started) (H : Type) (enc : TypeId × Value → H) :
    ReturnsInHanded {} Tryz.checked os 16 .any (Rows.flashOrderSpec.pre6 enc Tryz.prog Tryz.f16 Rows.flashOrderRow.domain false) (Rows.flashOrderSpec.post enc Tryz.prog Tryz.f16 false true false false) := by
  refine returnsInHanded_of_change (C := Tryz.checked) own_knob started (by kernel_rfl) Tryz.func16
    (ChangeSpec.witness6 (enc := enc) (C := Tryz.checked) false ⟨#[], #[.agg #[.slice Option.none 0 0], .string ⟨#[]⟩, .int .u8 0, .int .u8 0, .int .u8 0], []⟩ 8 (by kernel_rfl) (by kernel_rfl) (by kernel_rfl) (by kernel_rfl)) ?_
  intro W base args ds gs before hval0 hW hcnd _
  have hval : ∀ (j : Nat) t v, Tryz.f16.params[j]? = some t → args[j]? = some v → Value.okWide Tryz.prog W .any base t v := hval0
  have hW' := hW
  obtain ⟨p, q, hA0, hV, rfl, hfz, hnd⟩ := hW
  have hA : DataW.TrodAll enc Tryz.prog W 0 (fun _ => true) true Tryz.f16.params.toList args.toList ds p := hA0
  rw [Tryz.params16] at hA hval
  have hlt : ∀ x ∈ p, x.block < W.heap.size := fun x hx => hW'.lt x (List.mem_append_left _ hx)
  have hAk := hA
  obtain ⟨v0, vs0, d0, ds0, p0, q0, hargs, rfl, rfl, h0, r0⟩ := trodAll_cons hA
  obtain ⟨v1, vs1, d1, ds1, p1, q1, rfl, rfl, rfl, h1, r1⟩ := trodAll_cons r0
  obtain ⟨v2, vs2, d2, ds2, p2, q2, rfl, rfl, rfl, h2, r2⟩ := trodAll_cons r1
  obtain ⟨v3, vs3, d3, ds3, p3, q3, rfl, rfl, rfl, h3, r3⟩ := trodAll_cons r2
  obtain ⟨v4, vs4, d4, ds4, p4, q4, rfl, rfl, rfl, h4, r4⟩ := trodAll_cons r3
  obtain ⟨rfl, rfl, rfl⟩ := trodAll_nil r4
  obtain rfl : args = #[v0, v1, v2, v3, v4] := by cases args; simp_all
  obtain ⟨rfl, rfl⟩ := trodVars_none hV
  obtain ⟨cs0, rfl, _⟩ := okWide_struct und24 (hval 0 24 v0 rfl rfl)
  obtain ⟨fuel0, h0⟩ := h0
  obtain ⟨u0, l0, e0, hl0⟩ := open_code h0
  obtain rfl : cs0 = #[u0] := by
    have h : cs0.toList = [u0] := e0
    cases cs0
    simp at h
    rw [h]
  obtain ⟨a1, rfl, rfl, rfl, _⟩ := Go.ChangeMaps.open_string Tryz.underlying9 (hval 1 9 v1 rfl rfl) h1
  obtain ⟨a2, rfl, rfl, rfl, w2⟩ := open_int Tryz.underlying5 (hval 2 5 v2 rfl rfl) h2
  obtain ⟨a3, rfl, rfl, rfl, w3⟩ := open_int Tryz.underlying5 (hval 3 5 v3 rfl rfl) h3
  obtain ⟨a4, rfl, rfl, rfl, w4⟩ := open_int Tryz.underlying5 (hval 4 5 v4 rfl rfl) h4
  clear hA0 hval0 hval hA
  simp only [List.append_nil] at hW'
  simp only [List.append_nil] at hAk hlt
  refine (order_law _ l0 a1 a2 a3 a4 W hl0 (bounds_u8 w2) (bounds_u8 w3) (bounds_u8 w4)).mono fun e W' ⟨he, hg⟩ => ?_
  subst he
  refine ⟨_, rfl, post_below (pv := []) hW' hg (fun _ _ _ => (trodAll_cons_mk (shut_bool Tryz.underlying4 _) trodAll_mk0)) (fun sp hsp => ?_) (fun _ _ => rfl) (List.append_nil _).symm
    (ok_one (by kernel_rfl) rfl (okWide_bool_mk Tryz.underlying4 _))⟩
  rw [Tryz.params16]
  refine args_stay laid_out hg (fun t ht => ?_) hAk hlt sp (fun x hx => hsp x (by first | exact hx | simpa using hx))
  simp only [List.mem_cons, List.not_mem_nil, or_false] at ht
  rcases ht with rfl | rfl | rfl | rfl | rfl
  · exact ⟨by kernel_rfl, by have h : decide (24 < Tryz.prog.types.size) = true := (by kernel_rfl); exact of_decide_eq_true h⟩
  · exact ⟨by kernel_rfl, by have h : decide (9 < Tryz.prog.types.size) = true := (by kernel_rfl); exact of_decide_eq_true h⟩
  · exact ⟨by kernel_rfl, by have h : decide (5 < Tryz.prog.types.size) = true := (by kernel_rfl); exact of_decide_eq_true h⟩
  · exact ⟨by kernel_rfl, by have h : decide (5 < Tryz.prog.types.size) = true := (by kernel_rfl); exact of_decide_eq_true h⟩
  · exact ⟨by kernel_rfl, by have h : decide (5 < Tryz.prog.types.size) = true := (by kernel_rfl); exact of_decide_eq_true h⟩

theorem flashOrder_over : Rows.flashOrderRow.holds Tryz.pinned (OpenSpec.ofChange Rows.flashOrderSpec) :=
  OpenClaim.holds_of_wide 16 Tryz.f16 rfl rfl rfl rfl rfl rfl rfl ⟨rfl, rfl, rfl, rfl, rfl⟩ rfl rfl rfl rfl rfl (by kernel_rfl) Tryz.func16 (by kernel_rfl)
    (of_decide_eq_true (by kernel_rfl)) (by unfold Func.isWrapper; first | (rw [if_pos (by decide +kernel)]; kernel_rfl) | (rw [if_neg (by decide +kernel)]; exact ⟨rfl, rfl⟩))
    (fun os started H enc _ => flashOrder_lifted os started H enc)

theorem FlashOrder_holds : Rows.FlashOrderSaid := flashOrder_over

end Go.Proofs.YtonekgefegfapaaGreat

