/-
  FlashSends holds: the lift.
-/
import Derived.Test.YtonekgefegfapaaGreatGq
import Derived.Test.YtonekgefegfapaaGreatGr
namespace Go.Proofs.YtonekgefegfapaaGreat
open Go.RowKit

set_option maxRecDepth 100000 in
theorem In_b (x a b : Int) (v : Bool) (w : World) (h : (decide (a ≤ x) && decide (x ≤ b)) = v) : Calls Tryz.prog 36 #[iv x, iv a, iv b] w fun e w' => e = .returned (.bool v) ∧ Below w.heap.size w w' := by
  by_cases h1 : a ≤ x
  · by_cases h2 : x ≤ b
    · obtain rfl : true = v := by rw [← h, decide_eq_true h1, decide_eq_true h2]; rfl
      clear h
      go_enter Tryz.func36, Tryz.ntmps36
      go_wp2_with fail
      go_ret
      exact ⟨rfl, up0⟩
    · obtain rfl : false = v := by rw [← h, decide_eq_true h1, decide_eq_false h2]; rfl
      clear h
      go_enter Tryz.func36, Tryz.ntmps36
      go_wp2_with fail
      go_ret
      exact ⟨rfl, up0⟩
  · obtain rfl : false = v := by rw [← h, decide_eq_false h1]; rfl
    clear h
    go_enter Tryz.func36, Tryz.ntmps36
    go_wp2_with fail
    go_ret
    exact ⟨rfl, up0⟩
theorem all_take {α : Type} {p : α → Bool} {l : List α} {k : Nat} {x : α} (hx : l[k]? = some x) : (l.take (k + 1)).all p = ((l.take k).all p && p x) := by
  rw [List.take_add_one, hx]
  simp
end Go.Proofs.YtonekgefegfapaaGreat

namespace Go.Proofs.YtonekgefegfapaaGreat
open Go.RowKit

theorem nodup_iff_at {α : Type} {l : List α} : l.Nodup ↔ ∀ (i j : Nat) (x : α), i < j → l[i]? = some x → ¬ l[j]? = some x := by
  unfold List.Nodup
  rw [List.pairwise_iff_getElem]
  constructor
  · intro h i j x hij hi hj
    obtain ⟨h1, e1⟩ := List.getElem?_eq_some_iff.1 hi
    obtain ⟨h2, e2⟩ := List.getElem?_eq_some_iff.1 hj
    exact h i j h1 h2 hij (e1.trans e2.symm)
  · intro h i j h1 h2 hij e
    exact h i j l[i] hij (List.getElem?_eq_getElem h1) (by rw [List.getElem?_eq_getElem h2, e])
/-- What has been seen of the first letters of a code. -/
def Seen (l : List ByteArray) (k : Nat) : Prop := (∀ j s, j < k → l[j]? = some s → fitB s = true ∧ flashB s = true) ∧ ∀ i j s, i < j → j < k → l[i]? = some s → ¬ l[j]? = some s
theorem seen_none (l : List ByteArray) : Seen l 0 := ⟨fun _ _ h => absurd h (Nat.not_lt_zero _), fun _ _ _ _ h => absurd h (Nat.not_lt_zero _)⟩
theorem seen_step {l : List ByteArray} {k : Nat} {s : ByteArray} (h : Seen l k) (hs : l[k]? = some s) (h1 : fitB s = true) (h2 : flashB s = true) (h3 : ∀ j, j < k → ¬ l[j]? = some s) : Seen l (k + 1) := by
  refine ⟨fun j t hj ht => ?_, fun i j t hij hj hi ht => ?_⟩
  · rcases Nat.lt_or_ge j k with hk | hk
    · exact h.1 j t hk ht
    · obtain rfl : j = k := by omega
      rw [hs] at ht
      obtain rfl := Option.some.inj ht
      exact ⟨h1, h2⟩
  · rcases Nat.lt_or_ge j k with hk | hk
    · exact h.2 i j t hij hk hi ht
    · obtain rfl : j = k := by omega
      rw [hs] at ht
      obtain rfl := Option.some.inj ht
      exact h3 i hij hi
theorem seen_all {l : List ByteArray} (h : Seen l l.length) (h0 : 0 < l.length) : codeB l = true := by
  have hn : l.Nodup := nodup_iff_at.2 fun i j s hij hi hj => h.2 i j s hij (List.getElem?_eq_some_iff.1 hj).1 hi hj
  have hf : ∀ s ∈ l, fitB s = true ∧ flashB s = true := fun s hs => by
    obtain ⟨j, hj⟩ := List.mem_iff_getElem?.1 hs
    exact h.1 j s (List.getElem?_eq_some_iff.1 hj).1 hj
  unfold codeB
  rw [decide_eq_true h0, decide_eq_true hn, List.all_eq_true.2 fun s hs => (hf s hs).1, List.all_eq_true.2 fun s hs => (hf s hs).2]
  rfl
theorem code_fit {l : List ByteArray} {k : Nat} {s : ByteArray} (hs : l[k]? = some s) (h : fitB s = false) : codeB l = false := by
  have : l.all fitB = false := by
    rw [List.all_eq_false]
    exact ⟨s, List.mem_of_getElem? hs, by rw [h]; simp⟩
  unfold codeB
  rw [this]
  simp
theorem code_flash {l : List ByteArray} {k : Nat} {s : ByteArray} (hs : l[k]? = some s) (h : flashB s = false) : codeB l = false := by
  have : l.all flashB = false := by
    rw [List.all_eq_false]
    exact ⟨s, List.mem_of_getElem? hs, by rw [h]; simp⟩
  unfold codeB
  rw [this]
  simp
theorem code_twice {l : List ByteArray} {j k : Nat} {s : ByteArray} (hs : l[k]? = some s) (hj : l[j]? = some s) (h : j < k) : codeB l = false := by
  have : ¬ l.Nodup := fun hn => nodup_iff_at.1 hn j k s h hj hs
  unfold codeB
  rw [decide_eq_false this]
  simp
theorem flash_iff (c : UInt8) : hasB [46, 45] c = true ↔ c = 46 ∨ c = 45 := by
  unfold hasB
  simp only [Lib.indexByte]
  by_cases h1 : c = 46
  · subst h1
    simp
  by_cases h2 : c = 45
  · subst h2
    simp
  have e1 : ((46 : UInt8) == c) = false := by simpa using fun h => h1 (Eq.symm h)
  have e2 : ((45 : UInt8) == c) = false := by simpa using fun h => h2 (Eq.symm h)
  simp [e1, e2, h1, h2]
/-- A list of at most 9 letters of at most 9 bytes. -/
def thinB (l : List ByteArray) : Bool := decide (l.length ≤ 9) && l.all fun s => decide (s.size ≤ 9)
theorem thin_wide {l : List ByteArray} {k : Nat} {s : ByteArray} (hs : l[k]? = some s) (h : 9 < s.size) : thinB l = false := by
  have : (l.all fun s => decide (s.size ≤ 9)) = false := by
    rw [List.all_eq_false]
    exact ⟨s, List.mem_of_getElem? hs, by simp; omega⟩
  unfold thinB
  rw [this, Bool.and_false]
theorem thin_yes {l : List ByteArray} (h9 : l.length ≤ 9) (h : ∀ j s, j < l.length → l[j]? = some s → s.size ≤ 9) : thinB l = true := by
  unfold thinB
  rw [decide_eq_true h9, Bool.true_and, List.all_eq_true]
  intro s hs
  obtain ⟨j, hj⟩ := List.mem_iff_getElem?.1 hs
  exact decide_eq_true (h j s (List.getElem?_eq_some_iff.1 hj).1 hj)
theorem thin_long {l : List ByteArray} (h9 : 9 < l.length) : thinB l = false := by
  unfold thinB
  rw [decide_eq_false (by omega), Bool.false_and]
end Go.Proofs.YtonekgefegfapaaGreat

namespace Go.Proofs.YtonekgefegfapaaGreat
open Go.RowKit

set_option maxRecDepth 100000 in
set_option maxHeartbeats 1500000 in
theorem Thin_any (v : Value) (l : List ByteArray) (s : ByteArray) (w : World) (hl : RowsAny w v 1 sc l) : Calls Tryz.prog 18 #[.agg #[v], .string s] w fun e w' => e = .returned (.bool (thinB l && decide (s.size ≤ 60))) ∧ Below w.heap.size w w' := by
  obtain ⟨A, cap, hv, hca, hcm⟩ := hl.form
  subst hv
  have hla : l.length ≤ 9223372036854775807 := Nat.le_trans hca hcm
  have HL := Lib.hid hl
  clear hl hca hcm
  go_enter Tryz.func18, Tryz.ntmps18
  have B1 := Box.new (w := w) (t := 24) (cs := #[.slice A l.length cap]) rfl
  go_wp2_with fail
  go_loopw [5] (fun i wr => ∃ k : Nat, k ≤ l.length ∧ k ≤ 10 ∧ i = iv k ∧ Hid (∀ j s, j < k → l[j]? = some s → s.size ≤ 9) ∧ Hid (Box wr w.heap.size 24 #[.slice A l.length cap]) ∧ Below w.heap.size w wr) (fun i _ => l.length - (intOf i).toNat)
  case atStart => exact ⟨0, by omega, by omega, rfl, Lib.hid (fun j _ h => absurd h (Nat.not_lt_zero _)), Lib.hid B1, up_alloc up0 _⟩
  case round =>
    obtain ⟨k, hk, hk10, rfl, HT, HB1, hB⟩ := hrel
    have c1 := fun i => HB1.out.cell i
    by_cases hlt : k < l.length
    · have hlt' : (k : Int) < (l.length : Int) := by omega
      by_cases h10 : k < 10
      · have h10' : (k : Int) < 10 := by omega
        have k0 : (0 : Int) ≤ (k : Int) := by omega
        obtain ⟨x, hx⟩ : ∃ x, l[k]? = some x := ⟨_, List.getElem?_eq_getElem hlt⟩
        obtain ⟨b, off, rfl, hb, hc⟩ := (HL.out.kept hB).at rfl hx
        have q0 : wr.cell? ⟨b, off + k, none⟩ = some (.string x) := by simpa using hc 0 _ rfl
        have Hx := Lib.hid hx
        clear hc hx
        by_cases h9 : 9 < x.size
        · have h9' : (9 : Int) < (x.size : Int) := by omega
          have Hr := Lib.hid (show (thinB l && decide (s.size ≤ 60)) = false by rw [thin_wide Hx.out h9]; rfl)
          go_wp2_with fail
          go_ret
          exact ⟨ret_bool Hr.out.symm, hB⟩
        · have h9' : ¬ (9 : Int) < (x.size : Int) := by omega
          have HN : Hid (∀ j s, j < k + 1 → l[j]? = some s → s.size ≤ 9) := Lib.hid fun j y hj hy => by
            rcases Nat.lt_or_ge j k with h | h
            · exact HT.out j y h hy
            · obtain rfl : j = k := by omega
              rw [Hx.out] at hy
              obtain rfl := Option.some.inj hy
              omega
          go_wp2_with fail
          go_roundw
          case rel => exact ⟨k + 1, by omega, by omega, by go_num, HN, HB1, hB⟩
          case measure => simp [intOf]; omega
      · have h10' : ¬ (k : Int) < 10 := by omega
        have hle : ¬ (l.length : Int) ≤ 9 := by omega
        have Hr := Lib.hid (show (thinB l && decide (s.size ≤ 60)) = false by rw [thin_long (by omega)]; rfl)
        go_wp2_with fail
        go_ret
        exact ⟨ret_bool Hr.out.symm, hB⟩
    · have hlt' : ¬ (k : Int) < (l.length : Int) := by omega
      obtain rfl : k = l.length := by omega
      by_cases h9 : l.length ≤ 9
      · have hle : (l.length : Int) ≤ 9 := by omega
        have Hr := Lib.hid (show (thinB l && decide (s.size ≤ 60)) = decide ((s.size : Int) ≤ 60) by
          rw [thin_yes h9 HT.out, Bool.true_and, decide_eq_decide]
          omega)
        go_wp2_with fail
        go_ret
        exact ⟨ret_bool Hr.out.symm, hB⟩
      · have hle : ¬ (l.length : Int) ≤ 9 := by omega
        have Hr := Lib.hid (show (thinB l && decide (s.size ≤ 60)) = false by rw [thin_long (by omega)]; rfl)
        go_wp2_with fail
        go_ret
        exact ⟨ret_bool Hr.out.symm, hB⟩
theorem str_info : (Tryz.prog.info? 9).map (fun i => (i.zero, i.size, i.bytes)) = some (some (.string ⟨#[]⟩), 1, 16) := by kernel_rfl
theorem flat_sc (l : List ByteArray) : l.flatMap sc = l.map fun x => .string x := by
  induction l with
  | nil => rfl
  | cons x l ih => rw [List.flatMap_cons, ih]; rfl
set_option maxRecDepth 100000 in
set_option maxHeartbeats 1500000 in
theorem Code_any (v : Value) (l : List ByteArray) (w : World) (hl : RowsAt w v 1 sc l) : Calls Tryz.prog 21 #[.agg #[v]] w fun e w' => ∃ u, e = .returned (.agg #[u]) ∧ RowsAny w' u 1 sc l ∧ Below w.heap.size w w' := by
  obtain ⟨hlen, A, cap, hv, hcap, hmax⟩ := hl.form
  subst hv
  obtain ⟨i0, hi0, hz0, hz1, hz2⟩ := info_parts str_info
  have und22 := Tryz.underlying22
  cases A with
  | none =>
    have hl0 : l = [] := by
      rcases hl with ⟨_, A', cap', h1, _, _, h4⟩
      injection h1 with h1
      subst h1
      rcases l with _ | ⟨x, l⟩
      · rfl
      · obtain ⟨b, off, e, _⟩ := h4 (by simp)
        cases e
    subst hl0
    clear hl
    go_enter Tryz.func21, Tryz.ntmps21
    have B1 := Box.new (w := w) (t := 24) (cs := #[.slice none ([] : List ByteArray).length cap]) rfl
    have c1 := fun i => B1.cell i
    go_wp2_with fail
    refine bodyPost_ret (v := .agg #[.slice (some ⟨w.heap.size + 1 + 1, 0, none⟩) 0 0]) (results_cell rfl rfl ((Box.new (by simp)).alloc _) (d := .struct (Tryz.prog.fieldsOf 30)) (by kernel_rfl) rfl (by kernel_rfl)) rfl ⟨_, rfl, ⟨_, 0, rfl, Nat.zero_le _, Nat.zero_le _, fun h => absurd rfl h⟩, up_alloc (up_alloc (up_alloc up0 _) _) _⟩
  | some ad =>
    have HL := Lib.hid hl
    clear hl
    go_enter Tryz.func21, Tryz.ntmps21
    have B1 := Box.new (w := w) (t := 24) (cs := #[.slice (some ad) l.length cap]) rfl
    have c1 := fun i => B1.cell i
    have b1 := HL.out
    have hmk : (((w.alloc (.cells #[.slice (some ad) l.length cap] 24)).alloc (.cells #[.slice none 0 0] 30)).alloc (.cells #[] 9)).ownsRow w.heap.size 9 1 (.slice (some ⟨w.heap.size + 1 + 1, 0, none⟩) 0 0) 0 [] := by
      have h := World.ownsRow_made (base := w.heap.size) (e := 9) (size := 1) ((w.alloc (.cells #[.slice (some ad) l.length cap] 24)).alloc (.cells #[.slice none 0 0] 30)) #[] 0 (by simp; omega) (Nat.zero_le _) rfl
      simpa using h
    go_wp2_with (at_builtin; refine wpList_append_own _ rfl _ _ 22 rfl w.heap.size 9 i0 (.string ⟨#[]⟩) 1 16 und22 hi0 hz0 hz1 hz2 rfl (by decide) _ 0 [] rfl hmk ad l.length cap (l.map fun x => .string x) rfl (by simp) ?qc2 ?qc3 (by unfold maxLen; omega) (by omega) (by simp; omega) ?_)
    case qc2 =>
      intro j u hj
      rw [List.getElem?_map, Option.map_eq_some_iff] at hj
      obtain ⟨x, hx, rfl⟩ := hj
      obtain ⟨b, off, e, hb, hc⟩ := HL.out.at rfl hx
      injection e with e
      subst e
      have := hc 0 _ rfl
      rw [addr_add]
      exact Lib.cell?_alloc_some _ (Lib.cell?_alloc_some _ (Lib.cell?_alloc_some _ (by simpa using this)))
    case qc3 =>
      intro u hu
      obtain ⟨x, _, rfl⟩ := List.mem_map.1 hu
      rfl
    intro v' w1 hown hgrow hnil
    have B2 := (show Box (((w.alloc (.cells #[.slice (some ad) l.length cap] 24)).alloc (.cells #[.slice none 0 0] 30)).alloc (.cells #[] 9)) (w.heap.size + 1) 30 #[.slice none 0 0] from (Box.new (by simp)).alloc _).grown hgrow (by simp [Value.ownBlock])
    have c2 := fun i => B2.cell i
    have f2 := fun i => B2.free i
    have hbw : Below w.heap.size w w1 := (up_alloc (up_alloc (up_alloc up0 _) _) _).grown hgrow (by simp; omega) (by intro k hk; simp [Value.ownBlock] at hk; omega)
    obtain ⟨A', m', p', hform⟩ := own_form hown
    subst hform
    have HO := Lib.hid (hown.kept (grownBy_set w1 (w.heap.size + 1) 0 (.slice A' m' p')) (.inr (Ne.symm (box_not_own B2 (by decide) hown))))
    clear hown hgrow hnil
    go_wp2_with fail
    exact bodyPost_ret (v := .agg #[.slice A' m' p']) (results_cell rfl rfl (Box.put1 B2) (d := .struct (Tryz.prog.fieldsOf 30)) (by kernel_rfl) rfl (by kernel_rfl)) rfl ⟨_, rfl, rows_any (rows_of_own (cells := sc) (by rw [flat_sc]; simpa using HO.out) rfl (fun _ => rfl) hlen), up_put hbw (by simp) _⟩
set_option maxRecDepth 100000 in
set_option maxHeartbeats 3000000 in
theorem IsText_any (v u : Value) (l : List ByteArray) (t : List Int) (w : World) (hl : RowsAt w v 1 sc l) (ht : RowsAny w u 1 ic t) : Calls Tryz.prog 25 #[.agg #[v], u] w fun e w' => e = .returned (.bool (t.all (letB l.length))) ∧ Below w.heap.size w w' := by
  obtain ⟨hla, A, cap, hv, hca, hcm⟩ := hl.form
  subst hv
  obtain ⟨A2, cap2, hv2, hca2, hcm2⟩ := ht.form
  subst hv2
  have hta : t.length ≤ 9223372036854775807 := Nat.le_trans hca2 hcm2
  have HT := Lib.hid ht
  obtain ⟨n, hn⟩ : ∃ n, l.length = n := ⟨_, rfl⟩
  rw [hn] at hla
  rw [hn]
  clear hl ht hca hcm hca2 hcm2 hn
  go_enter Tryz.func25, Tryz.ntmps25
  have B1 := Box.new (w := w) (t := 24) (cs := #[.slice A n cap]) rfl
  go_wp2_with fail
  go_loopw [5] (fun i wr => ∃ k : Nat, k ≤ t.length ∧ i = iv k ∧ Hid ((t.take k).all (letB n) = true) ∧ Hid (Box wr w.heap.size 24 #[.slice A n cap]) ∧ Below w.heap.size w wr) (fun i _ => t.length - (intOf i).toNat)
  case atStart => exact ⟨0, by omega, rfl, Lib.hid rfl, Lib.hid B1, up_alloc up0 _⟩
  case round =>
    obtain ⟨k, hk, rfl, HA, HB1, hB⟩ := hrel
    by_cases hlt : k < t.length
    · obtain ⟨x, hx⟩ : ∃ x, t[k]? = some x := ⟨_, List.getElem?_eq_getElem hlt⟩
      obtain ⟨b, off, rfl, hb, hc⟩ := (HT.out.kept hB).at rfl hx
      have q0 : wr.cell? ⟨b, off + k, none⟩ = some (iv x) := by simpa using hc 0 _ rfl
      have Hx := Lib.hid hx
      have k0 : (0 : Int) ≤ (k : Int) := by omega
      have kl : (k : Int) < (t.length : Int) := by omega
      have hW : IntKind.i64.wrap ((n : Int) - 1) = (n : Int) - 1 := wrapK_in _ 3000 (by omega) (by omega)
      have HB := Lib.hid hB
      have b1 := HB1.out
      have lB1 := b1.lt
      clear hx hc hB B1
      cases hxn : letB n x with
      | true =>
        have HI := Lib.hid (show (decide (0 ≤ x) && decide (x ≤ (n : Int) - 1)) = true by rw [← hxn]; unfold letB; congr 1; rw [decide_eq_decide]; omega)
        have HN := Lib.hid (show (t.take (k + 1)).all (letB n) = true by rw [all_take Hx.out, HA.out, hxn]; rfl)
        clear hxn HA HT Hx
        go_wp2_with fail
        apply wp_region_by 10 [(Fact.eq _), (Fact.eq _), (Fact.eq _), (Fact.eq _), (Fact.eq _), (Fact.eq _), (Fact.eq _), (Fact.eq _), (Fact.eq _), (Fact.eq _)]
        case hm => kernel_rfl
        case hB => kernel_rfl
        case hA => (intro vs; simp only [List.take_succ_cons, List.take_zero, putAll, if_true, Act.put, List.setIfInBounds_toArray, List.set_cons_zero, List.set_cons_succ]; exact rfl)
        case hstep =>
          intro vs
          refine And.intro (fun w hw hd => ?_) ?_
          · refine ite_yes rfl ?_
            simp only [Gives]
            go_simp
            exact ⟨Below.refl _ _, rfl, fun h => by cases h⟩
          refine And.intro (fun w hw hd => ?_) ?_
          · refine ite_yes rfl ?_
            simp only [Gives]
            go_simp
            exact ⟨Below.refl _ _, rfl, fun h => by cases h⟩
          refine And.intro (fun w hw hd => ?_) ?_
          · have d0 := hd 0 (by decide) rfl
            change vs 0 = _ at d0
            have d1 := hd 1 (by decide) rfl
            change vs 1 = _ at d1
            refine ite_yes rfl ?_
            simp only [Gives]
            go_simp
            exact ⟨Below.refl _ _, rfl, fun h => by cases h⟩
          refine And.intro (fun w hw hd => ?_) ?_
          · have d2 := hd 2 (by decide) rfl
            change vs 2 = _ at d2
            refine ite_yes rfl ?_
            have c_b1 := fun i => (b1.kept hw).cell i
            have p0 := (hw.cell (p := ⟨b, off + k, none⟩) hb).trans q0
            simp only [Gives]
            go_simp
            exact ⟨Below.refl _ _, rfl, fun h => by cases h⟩
          refine And.intro (fun w hw hd => ?_) ?_
          · refine ite_yes rfl ?_
            simp only [Gives]
            go_simp
            exact ⟨Below.refl _ _, rfl, fun h => by cases h⟩
          refine And.intro (fun w hw hd => ?_) ?_
          · have d4 := hd 4 (by decide) rfl
            change vs 4 = _ at d4
            refine ite_yes rfl ?_
            have c_b1 := fun i => (b1.kept hw).cell i
            simp only [Gives]
            go_simp
            exact ⟨Below.refl _ _, rfl, fun h => by cases h⟩
          refine And.intro (fun w hw hd => ?_) ?_
          · have d5 := hd 5 (by decide) rfl
            change vs 5 = _ at d5
            refine ite_yes rfl ?_
            simp only [Gives]
            go_simp
            exact ⟨Below.refl _ _, rfl, fun h => by cases h⟩
          refine And.intro (fun w hw hd => ?_) ?_
          · have d6 := hd 6 (by decide) rfl
            change vs 6 = _ at d6
            refine ite_yes rfl ?_
            simp only [Gives]
            go_simp
            exact ⟨Below.refl _ _, rfl, fun h => by cases h⟩
          refine And.intro (fun w hw hd => ?_) ?_
          · have d3 := hd 3 (by decide) rfl
            change vs 3 = _ at d3
            have d7 := hd 7 (by decide) rfl
            change vs 7 = _ at d7
            refine ite_yes rfl ?_
            simp only [Gives]
            go_simp
            refine (In_b x 0 ((n : Int) - 1) true w HI.out).mono ?_
            rintro e w1 ⟨rfl, hb⟩
            exact ⟨_, rfl, hb, rfl, fun h => by cases h⟩
          refine And.intro (fun w hw hd => ?_) ?_
          · have d8 := hd 8 (by decide) rfl
            change vs 8 = _ at d8
            refine ite_yes rfl ?_
            simp only [Gives]
            go_simp
            exact ⟨Below.refl _ _, rfl, fun h => by cases h⟩
          exact trivial
        intro vs wt hw hd hne hlo
        have d0 := hd 0 (by decide)
        change vs 0 = _ at d0
        have d1 := hd 1 (by decide)
        change vs 1 = _ at d1
        have d2 := hd 2 (by decide)
        change vs 2 = _ at d2
        have d3 := hd 3 (by decide)
        change vs 3 = _ at d3
        have d4 := hd 4 (by decide)
        change vs 4 = _ at d4
        have d5 := hd 5 (by decide)
        change vs 5 = _ at d5
        have d6 := hd 6 (by decide)
        change vs 6 = _ at d6
        have d7 := hd 7 (by decide)
        change vs 7 = _ at d7
        have d8 := hd 8 (by decide)
        change vs 8 = _ at d8
        have d9 := hd 9 (by decide)
        change vs 9 = _ at d9
        simp only [d0, d1, d2, d3, d4, d5, d6, d7, d8, d9, List.drop_succ_cons, List.drop_nil]
        have b1 := b1.kept hw
        have c_b1 := fun i => b1.cell i
        have f_b1 := fun i => b1.free i
        clear hd hne hlo d0 d1 d2 d3 d4 d5 d6 d7 d8 d9
        have hB := up_later HB.out hw
        go_wp2_with fail
        go_roundw
        case rel => exact ⟨k + 1, by omega, by go_num, HN, Lib.hid b1, hB⟩
        case measure => simp [intOf]; omega
      | false =>
        have HI := Lib.hid (show (decide (0 ≤ x) && decide (x ≤ (n : Int) - 1)) = false by rw [← hxn]; unfold letB; congr 1; rw [decide_eq_decide]; omega)
        have Hr := Lib.hid (show t.all (letB n) = false by rw [List.all_eq_false]; exact ⟨x, List.mem_of_getElem? Hx.out, by rw [hxn]; simp⟩)
        clear hxn HA HT Hx
        go_wp2_with fail
        apply wp_region_by 10 [(Fact.eq _), (Fact.eq _), (Fact.eq _), (Fact.eq _), (Fact.eq _), (Fact.eq _), (Fact.eq _), (Fact.eq _), (Fact.eq _), (Fact.eq _)]
        case hm => kernel_rfl
        case hB => kernel_rfl
        case hA => (intro vs; simp only [List.take_succ_cons, List.take_zero, putAll, if_true, Act.put, List.setIfInBounds_toArray, List.set_cons_zero, List.set_cons_succ]; exact rfl)
        case hstep =>
          intro vs
          refine And.intro (fun w hw hd => ?_) ?_
          · refine ite_yes rfl ?_
            simp only [Gives]
            go_simp
            exact ⟨Below.refl _ _, rfl, fun h => by cases h⟩
          refine And.intro (fun w hw hd => ?_) ?_
          · refine ite_yes rfl ?_
            simp only [Gives]
            go_simp
            exact ⟨Below.refl _ _, rfl, fun h => by cases h⟩
          refine And.intro (fun w hw hd => ?_) ?_
          · have d0 := hd 0 (by decide) rfl
            change vs 0 = _ at d0
            have d1 := hd 1 (by decide) rfl
            change vs 1 = _ at d1
            refine ite_yes rfl ?_
            simp only [Gives]
            go_simp
            exact ⟨Below.refl _ _, rfl, fun h => by cases h⟩
          refine And.intro (fun w hw hd => ?_) ?_
          · have d2 := hd 2 (by decide) rfl
            change vs 2 = _ at d2
            refine ite_yes rfl ?_
            have c_b1 := fun i => (b1.kept hw).cell i
            have p0 := (hw.cell (p := ⟨b, off + k, none⟩) hb).trans q0
            simp only [Gives]
            go_simp
            exact ⟨Below.refl _ _, rfl, fun h => by cases h⟩
          refine And.intro (fun w hw hd => ?_) ?_
          · refine ite_yes rfl ?_
            simp only [Gives]
            go_simp
            exact ⟨Below.refl _ _, rfl, fun h => by cases h⟩
          refine And.intro (fun w hw hd => ?_) ?_
          · have d4 := hd 4 (by decide) rfl
            change vs 4 = _ at d4
            refine ite_yes rfl ?_
            have c_b1 := fun i => (b1.kept hw).cell i
            simp only [Gives]
            go_simp
            exact ⟨Below.refl _ _, rfl, fun h => by cases h⟩
          refine And.intro (fun w hw hd => ?_) ?_
          · have d5 := hd 5 (by decide) rfl
            change vs 5 = _ at d5
            refine ite_yes rfl ?_
            simp only [Gives]
            go_simp
            exact ⟨Below.refl _ _, rfl, fun h => by cases h⟩
          refine And.intro (fun w hw hd => ?_) ?_
          · have d6 := hd 6 (by decide) rfl
            change vs 6 = _ at d6
            refine ite_yes rfl ?_
            simp only [Gives]
            go_simp
            exact ⟨Below.refl _ _, rfl, fun h => by cases h⟩
          refine And.intro (fun w hw hd => ?_) ?_
          · have d3 := hd 3 (by decide) rfl
            change vs 3 = _ at d3
            have d7 := hd 7 (by decide) rfl
            change vs 7 = _ at d7
            refine ite_yes rfl ?_
            simp only [Gives]
            go_simp
            refine (In_b x 0 ((n : Int) - 1) false w HI.out).mono ?_
            rintro e w1 ⟨rfl, hb⟩
            exact ⟨_, rfl, hb, rfl, fun h => by cases h⟩
          refine And.intro (fun w hw hd => ?_) ?_
          · have d8 := hd 8 (by decide) rfl
            change vs 8 = _ at d8
            refine ite_yes rfl ?_
            simp only [Gives]
            go_simp
            exact ⟨Below.refl _ _, rfl, fun h => by cases h⟩
          exact trivial
        intro vs wt hw hd hne hlo
        have d0 := hd 0 (by decide)
        change vs 0 = _ at d0
        have d1 := hd 1 (by decide)
        change vs 1 = _ at d1
        have d2 := hd 2 (by decide)
        change vs 2 = _ at d2
        have d3 := hd 3 (by decide)
        change vs 3 = _ at d3
        have d4 := hd 4 (by decide)
        change vs 4 = _ at d4
        have d5 := hd 5 (by decide)
        change vs 5 = _ at d5
        have d6 := hd 6 (by decide)
        change vs 6 = _ at d6
        have d7 := hd 7 (by decide)
        change vs 7 = _ at d7
        have d8 := hd 8 (by decide)
        change vs 8 = _ at d8
        have d9 := hd 9 (by decide)
        change vs 9 = _ at d9
        simp only [d0, d1, d2, d3, d4, d5, d6, d7, d8, d9, List.drop_succ_cons, List.drop_nil]
        have b1 := b1.kept hw
        have c_b1 := fun i => b1.cell i
        have f_b1 := fun i => b1.free i
        clear hd hne hlo d0 d1 d2 d3 d4 d5 d6 d7 d8 d9
        have hB := up_later HB.out hw
        go_wp2_with fail
        go_ret
        exact ⟨ret_bool Hr.out.symm, hB⟩
    · have Hr := Lib.hid (show t.all (letB n) = true by have h := HA.out; rwa [List.take_of_length_le (by omega)] at h)
      go_wp2_with fail
      go_ret
      exact ⟨ret_bool Hr.out.symm, hB⟩
set_option maxRecDepth 100000 in
set_option maxHeartbeats 3000000 in
theorem Signs_any (v u : Value) (l : List ByteArray) (t : List Int) (w : World) (hl : RowsAt w v 1 sc l) (ht : RowsAt w u 1 ic t) (h4 : ∀ s ∈ l, s.size ≤ 4) (hx : ∀ x ∈ t, letB l.length x = true) :
    Calls Tryz.prog 26 #[.agg #[v], u] w fun e w' => e = .returned (.string ⟨(sgnI l t).toArray⟩) ∧ Below w.heap.size w w' := by
  obtain ⟨hlen, A, cap, hv, -, -⟩ := hl.form
  subst hv
  obtain ⟨htlen, A2, cap2, hv2, -, -⟩ := ht.form
  subst hv2
  have HL := Lib.hid hl
  have HT := Lib.hid ht
  have H4 := Lib.hid h4
  have HX := Lib.hid hx
  clear hl ht h4 hx
  go_enter Tryz.func26, Tryz.ntmps26
  have B1 := Box.new (w := w) (t := 24) (cs := #[.slice A l.length cap]) rfl
  go_wp2_with fail
  go_loopw [5, 6] (fun o i wr => ∃ k : Nat, k ≤ t.length ∧ i = iv k ∧ o = .string ⟨(sgnF l t k).toArray⟩ ∧ Hid (Box wr w.heap.size 24 #[.slice A l.length cap]) ∧ Below w.heap.size w wr) (fun _ i _ => t.length - (intOf i).toNat)
  case atStart => exact ⟨0, by omega, rfl, rfl, Lib.hid B1, up_alloc up0 _⟩
  case round =>
    obtain ⟨k, hk, rfl, rfl, HB1, hB⟩ := hrel
    by_cases hlt : k < t.length
    · obtain ⟨x, hx⟩ : ∃ x, t[k]? = some x := ⟨_, List.getElem?_eq_getElem hlt⟩
      obtain ⟨b, off, rfl, hb, hc⟩ := (HT.out.kept hB).at rfl hx
      have hxl := HX.out x (List.mem_of_getElem? hx)
      unfold letB at hxl
      have hx0 : 0 ≤ x ∧ x < (l.length : Int) := by simpa using hxl
      obtain ⟨n, rfl⟩ : ∃ n : Nat, x = n := ⟨x.toNat, by omega⟩
      have hn : n < l.length := by omega
      have q0 : wr.cell? ⟨b, off + k, none⟩ = some (.int .i64 n) := by simpa using hc 0 _ rfl
      obtain ⟨y, hy⟩ : ∃ y, l[n]? = some y := ⟨_, List.getElem?_eq_getElem hn⟩
      obtain ⟨b2, off2, rfl, hb2, hc2⟩ := (HL.out.kept hB).at rfl hy
      have q1 : wr.cell? ⟨b2, off2 + n, none⟩ = some (.string y) := by simpa using hc2 0 _ rfl
      have hy4 := H4.out y (List.mem_of_getElem? hy)
      have hgl := sgnF_len H4.out t k
      obtain ⟨G, hG⟩ : ∃ G : ByteArray, ⟨(sgnF l t k).toArray⟩ = G := ⟨_, rfl⟩
      have hGs : G.size ≤ 5000 := by
        rw [← hG]
        show (sgnF l t k).toArray.size ≤ 5000
        simp
        omega
      have Hs := Lib.hid (show (⟨(sgnF l t (k + 1)).toArray⟩ : ByteArray) = if k = 0 then G ++ y else (G ++ ⟨#[32]⟩) ++ y by
        rw [sgnF_succ, List.getD_eq_getElem?_getD, hx, ← hG]
        apply ByteArray.ext
        by_cases h0 : k = 0
        · subst h0
          rw [if_pos rfl]
          simp [addS, List.getD_eq_getElem?_getD, hy]
        · rw [if_neg h0]
          simp [addS, List.getD_eq_getElem?_getD, hy, h0])
      have k0 : (0 : Int) ≤ (k : Int) := by omega
      have kl : (k : Int) < (t.length : Int) := by omega
      have n0 : (0 : Int) ≤ (n : Int) := by omega
      have nl : (n : Int) < (l.length : Int) := by omega
      have b1 := HB1.out
      have c1 := fun i => b1.cell i
      rw [hG]
      clear hx hc hxl hx0 hy hc2 hgl hG
      by_cases h0 : k = 0
      · subst h0
        have hcat : ¬ 9223372036854775807 < G.size + y.size := by omega
        have q0 : wr.cell? ⟨b, off, none⟩ = some (.int .i64 n) := by simpa using q0
        go_wp2_with fail
        go_region
        go_wp2_with fail
        go_roundw
        case rel => exact ⟨1, by omega, by go_num, by rw [Hs.out]; rfl, HB1, up_drew hB⟩
        case measure => simp [intOf]; omega
      · have hk0 : (0 : Int) < (k : Int) := by omega
        have hcat : ¬ 9223372036854775807 < G.size + 1 := by omega
        obtain ⟨G2, hG2⟩ : ∃ G2 : ByteArray, G ++ ⟨#[32]⟩ = G2 := ⟨_, rfl⟩
        have hG2s : G2.size = G.size + 1 := by rw [← hG2, ByteArray.size_append]; rfl
        have hcat2 : ¬ 9223372036854775807 < G2.size + y.size := by omega
        have Hs2 := Lib.hid (show (⟨(sgnF l t (k + 1)).toArray⟩ : ByteArray) = G2 ++ y by rw [Hs.out, if_neg h0, hG2])
        go_wp2_with fail
        clear hG2
        go_region
        go_wp2_with fail
        go_roundw
        case rel => exact ⟨k + 1, by omega, by go_num, by rw [Hs2.out], HB1, up_drew hB⟩
        case measure => simp [intOf]; omega
    · obtain rfl : k = t.length := by omega
      go_wp2_with fail
      go_ret
      exact ⟨rfl, hB⟩
end Go.Proofs.YtonekgefegfapaaGreat

namespace Go.Proofs.YtonekgefegfapaaGreat
open Go.RowKit

theorem bytes_ne {x y : ByteArray} (h : ¬ y = x) : (y.toList == x.toList) = false := beq_eq_false_iff_ne.2 fun e => h (ByteArray.ext (Array.toList_inj.1 (by rw [← ByteArray.toList_eq, ← ByteArray.toList_eq]; exact e)))
set_option maxRecDepth 100000 in
set_option maxHeartbeats 3000000 in
theorem Fault_any (v : Value) (l : List ByteArray) (w : World) (hl : RowsAny w v 1 sc l) : Calls Tryz.prog 56 #[.agg #[v]] w fun e w' => e = .returned (iv (codeE l)) ∧ Below w.heap.size w w' := by
  obtain ⟨A, cap, hv, -, -⟩ := hl.form
  subst hv
  by_cases h6 : 6 < l.length
  · have h6' : (6 : Int) < (l.length : Int) := by omega
    have Hr := Lib.hid (show codeE l = 3 by unfold codeE; rw [if_pos h6])
    clear hl
    go_enter Tryz.func56, Tryz.ntmps56
    have B1 := Box.new (w := w) (t := 24) (cs := #[.slice A l.length cap]) rfl
    have c1 := fun i => B1.cell i
    go_wp2_with fail
    go_ret
    exact ⟨by rw [Hr.out]; rfl, up_alloc up0 _⟩
  · have h6' : ¬ (6 : Int) < (l.length : Int) := by omega
    have HL := Lib.hid (hl.rows (by omega))
    have H1 : Hid (codeB l = false → codeE l = 1) := Lib.hid fun h => by unfold codeE; rw [if_neg h6, if_pos h]
    have H0 : Hid (codeB l = true → codeE l = 0) := Lib.hid fun h => by unfold codeE; rw [if_neg h6, if_neg (by rw [h]; simp)]
    clear hl
    go_enter Tryz.func56, Tryz.ntmps56
    have B1 := Box.new (w := w) (t := 24) (cs := #[.slice A l.length cap]) rfl
    have c1 := fun i => B1.cell i
    go_wp2_with fail
    clear c1
    go_loopw [3] (fun i wr => ∃ k : Nat, k ≤ l.length ∧ i = iv k ∧ Hid (Seen l k) ∧ Hid (Box wr w.heap.size 24 #[.slice A l.length cap]) ∧ Below w.heap.size w wr) (fun i _ => l.length - (intOf i).toNat)
    case atStart => exact ⟨0, by omega, rfl, Lib.hid (seen_none l), Lib.hid B1, up_alloc up0 _⟩
    case round =>
      obtain ⟨k, hk, rfl, HS, HB1, hB⟩ := hrel
      have c1 := fun i => HB1.out.cell i
      have k0 : (0 : Int) ≤ (k : Int) := by omega
      by_cases hlt : k < l.length
      · have kl : (k : Int) < (l.length : Int) := by omega
        obtain ⟨x, hx⟩ : ∃ x, l[k]? = some x := ⟨_, List.getElem?_eq_getElem hlt⟩
        obtain ⟨b, off, rfl, hb, hc⟩ := (HL.out.kept hB).at rfl hx
        have q0 : wr.cell? ⟨b, off + k, none⟩ = some (.string x) := by simpa using hc 0 _ rfl
        have Hx := Lib.hid hx
        clear hx hc
        cases hfit : fitB x with
        | false =>
          have HI := Lib.hid (show (decide ((1 : Int) ≤ (x.size : Int)) && decide ((x.size : Int) ≤ 4)) = false by
            rw [← hfit]
            unfold fitB
            congr 1 <;> rw [decide_eq_decide] <;> omega)
          have Hr := Lib.hid (H1.out (code_fit Hx.out hfit))
          clear hfit HS
          go_wp2_with fail
          refine (In_b x.size 1 4 false _ HI.out).mono ?_
          rintro e w1 ⟨rfl, hb1⟩
          go_wp2_with fail
          go_ret
          exact ⟨by rw [Hr.out]; rfl, up_later hB hb1⟩
        | true =>
          have HI := Lib.hid (show (decide ((1 : Int) ≤ (x.size : Int)) && decide ((x.size : Int) ≤ 4)) = true by
            rw [← hfit]
            unfold fitB
            congr 1 <;> rw [decide_eq_decide] <;> omega)
          have Hfit := Lib.hid hfit
          have x4 : x.size ≤ 4 := by
            unfold fitB at hfit
            simp at hfit
            omega
          clear hfit
          go_wp2_with fail
          refine (In_b x.size 1 4 true _ HI.out).mono ?_
          rintro e w1 ⟨rfl, hb1⟩
          have hB1 := up_later hB hb1
          have B11 := HB1.out.kept hb1
          clear c1 q0 hb1 HI
          go_wp2_with fail
          go_loopw [5] (fun i wr => ∃ j : Nat, j ≤ x.size ∧ i = iv j ∧ Hid (∀ m c, m < j → x.data.toList[m]? = some c → hasB [46, 45] c = true) ∧ Hid (Box wr w.heap.size 24 #[.slice (some ⟨b, off, none⟩) l.length cap]) ∧ Below w.heap.size w wr) (fun i _ => x.size - (intOf i).toNat)
          case atStart => exact ⟨0, by omega, rfl, Lib.hid (fun m _ h => absurd h (Nat.not_lt_zero _)), Lib.hid B11, hB1⟩
          case round =>
            obtain ⟨j, hj, rfl, HF, HB2, hB2⟩ := hrel
            by_cases hjl : j < x.size
            · have hjl' : (j : Int) < (x.size : Int) := by omega
              obtain ⟨c, hc⟩ : ∃ c, x.data.toList[j]? = some c := ⟨_, List.getElem?_eq_getElem (by rw [← Lib.size_eq]; exact hjl)⟩
              have hix : ∀ w, (Instr.index 9 (.string x) (iv j)).run Tryz.prog w = .ok (.int .u8 c.toNat) w := fun w => by
                rw [run_index_string w 9 x _ _ Tryz.underlying9, dif_pos (by omega)]
                have h := (List.getElem?_eq_some_iff.1 hc).2
                have e : x[(j : Int).toNat]'(by omega) = c := by rw [← h]; rfl
                rw [e]
              by_cases hs : hasB [46, 45] c = true
              · have hgo : Hid (∀ m c, m < j + 1 → x.data.toList[m]? = some c → hasB [46, 45] c = true) := Lib.hid (fun m c' h h' => by
                  rcases Nat.lt_or_ge m j with h1 | h1
                  · exact HF.out m c' h1 h'
                  · obtain rfl : m = j := by omega
                    rw [hc] at h'
                    injection h' with h'
                    rw [← h']
                    exact hs)
                clear HF
                rcases (flash_iff c).1 hs with rfl | rfl
                all_goals
                  clear hs hc
                  have hx := hix
                  simp only [UInt8.reduceToNat, Int.cast_ofNat_Int] at hx
                  clear hix
                  go_wp2_with fail
                  go_roundw
                  case rel => exact ⟨j + 1, by omega, by go_num, hgo, HB2, hB2⟩
                  case measure => simp [intOf]; omega
              · have Hr := Lib.hid (H1.out (code_flash Hx.out (show flashB x = false by
                  unfold flashB
                  rw [List.all_eq_false]
                  exact ⟨c, List.mem_of_getElem? hc, hs⟩)))
                have hn : ∀ n : Nat, n < 256 → n = 46 ∨ n = 45 → ¬ (c.toNat : Int) = n := fun n hn h e => hs ((flash_iff c).2 (by
                  have e' : c.toNat = n := by omega
                  rcases h with rfl | rfl
                  · exact .inl (UInt8.toNat_inj.1 e')
                  · exact .inr (UInt8.toNat_inj.1 e')))
                have n1 : ((c.toNat : Int) != 46) = true := bne_iff_ne.2 (hn 46 (by decide) (by decide))
                have n2 : ((c.toNat : Int) != 45) = true := bne_iff_ne.2 (hn 45 (by decide) (by decide))
                clear hn hs HF hc
                go_wp2_with fail
                go_ret
                exact ⟨by rw [Hr.out]; rfl, hB2⟩
            · have hjl' : ¬ (j : Int) < (x.size : Int) := by omega
              have Hfl := Lib.hid (show flashB x = true by
                unfold flashB
                rw [List.all_eq_true]
                intro c hc
                obtain ⟨m, hm⟩ := List.mem_iff_getElem?.1 hc
                exact HF.out m c (by
                  have := (List.getElem?_eq_some_iff.1 hm).1
                  rw [← Lib.size_eq] at this
                  omega) hm)
              clear HF
              go_wp2_with fail
              go_loopw [6] (fun i wr => ∃ m : Nat, m ≤ k ∧ i = iv m ∧ Hid (∀ j, j < m → ¬ l[j]? = some x) ∧ Hid (Box wr w.heap.size 24 #[.slice (some ⟨b, off, none⟩) l.length cap]) ∧ Below w.heap.size w wr) (fun i _ => k - (intOf i).toNat)
              case atStart => exact ⟨0, by omega, rfl, Lib.hid (fun m h => absurd h (Nat.not_lt_zero _)), HB2, hB2⟩
              case round =>
                obtain ⟨m, hm, rfl, HN, HB3, hB3⟩ := hrel
                by_cases hml : m < k
                · have hml' : (m : Int) < (k : Int) := by omega
                  have m0 : (0 : Int) ≤ (m : Int) := by omega
                  have ml : (m : Int) < (l.length : Int) := by omega
                  obtain ⟨y, hy⟩ : ∃ y, l[m]? = some y := ⟨_, List.getElem?_eq_getElem (by omega)⟩
                  obtain ⟨b', off', e', hb', hc'⟩ := (HL.out.kept hB3).at rfl hy
                  injection e' with e'
                  injection e' with e1 e2
                  subst e1 e2
                  have q1 : wr.cell? ⟨b, off + m, none⟩ = some (.string y) := by simpa using hc' 0 _ rfl
                  have Hy := Lib.hid hy
                  have c3 := fun i => HB3.out.cell i
                  clear hy hc'
                  by_cases hxy : y = x
                  · subst hxy
                    have Hr := Lib.hid (H1.out (code_twice Hx.out Hy.out hml))
                    go_wp2_with fail
                    go_ret
                    exact ⟨by rw [Hr.out]; rfl, hB3⟩
                  · have hne : (y.toList == x.toList) = false := bytes_ne hxy
                    have HN2 : Hid (∀ j, j < m + 1 → ¬ l[j]? = some x) := Lib.hid (fun j h h' => by
                      rcases Nat.lt_or_ge j m with h1 | h1
                      · exact HN.out j h1 h'
                      · obtain rfl : j = m := by omega
                        rw [Hy.out] at h'
                        exact hxy (Option.some.inj h'))
                    go_wp2_with fail
                    go_roundw
                    case rel => exact ⟨m + 1, by omega, by go_num, HN2, HB3, hB3⟩
                    case measure => simp [intOf]; omega
                · have hml' : ¬ (m : Int) < (k : Int) := by omega
                  have HS2 := Lib.hid (seen_step HS.out Hx.out Hfit.out Hfl.out (fun j h => HN.out j (by omega)))
                  clear HN HS
                  go_wp2_with fail
                  go_roundw
                  case rel => exact ⟨k + 1, by omega, by go_num, HS2, HB3, hB3⟩
                  case measure => simp [intOf]; omega
      · have kl : ¬ (k : Int) < (l.length : Int) := by omega
        obtain rfl : k = l.length := by omega
        by_cases h0 : l.length = 0
        · have h0' : ((l.length : Int) == 0) = true := by rw [beq_iff_eq]; omega
          have Hr := Lib.hid (H1.out (show codeB l = false by unfold codeB; rw [decide_eq_false (by omega), Bool.false_and]))
          clear h0
          go_wp2_with fail
          go_ret
          exact ⟨by rw [Hr.out]; rfl, hB⟩
        · have h0' : ((l.length : Int) == 0) = false := by rw [beq_eq_false_iff_ne]; omega
          have Hr := Lib.hid (H0.out (seen_all HS.out (by omega)))
          go_wp2_with fail
          go_ret
          exact ⟨by rw [Hr.out]; rfl, hB⟩
set_option maxRecDepth 100000 in
theorem fault_any (v : Value) (l : List ByteArray) (w : World) (hl : RowsAny w v 1 sc l) : Calls Tryz.prog 24 #[.agg #[v]] w fun e w' => e = .returned (iv (codeE l)) ∧ Below w.heap.size w w' := by
  have HL := Lib.hid hl
  clear hl
  go_enter Tryz.func24, Tryz.ntmps24
  have B1 := Box.new (w := w) (t := 24) (cs := #[v]) rfl
  have c1 := fun i => B1.cell i
  go_wp2_with fail
  refine (Fault_any v l _ (HL.out.kept (up_alloc up0 _))).mono ?_
  rintro e w1 ⟨rfl, hb1⟩
  go_wp2_with fail
  go_ret
  exact ⟨rfl, up_later (up_alloc up0 _) hb1⟩
end Go.Proofs.YtonekgefegfapaaGreat

namespace Go.Proofs.YtonekgefegfapaaGreat
open Go.RowKit

theorem sends_0 {l : List ByteArray} {t : List Int} (h : sendE l t ≠ 0) : (⟨(sendS l t).toArray⟩ : ByteArray) = ⟨#[]⟩ := by unfold sendS; rw [if_neg h]
theorem codeE_three (l : List ByteArray) : codeE l = 0 ∨ codeE l = 1 ∨ codeE l = 3 := by
  unfold codeE
  split
  · exact .inr (.inr rfl)
  · split
    · exact .inr (.inl rfl)
    · exact .inl rfl
set_option maxRecDepth 100000 in
set_option maxHeartbeats 3000000 in
theorem sends_any (v : Value) (l : List ByteArray) (u : Value) (t : List Int) (w : World) (hl : RowsAny w v 1 sc l) (ht : RowsAny w u 1 ic t) : Calls Tryz.prog 3 #[.agg #[v], u] w fun e w' => e = .returned (.bool true) ∧ Below w.heap.size w w' := by
  obtain ⟨A, cap, hv, -, -⟩ := ht.form
  subst hv
  have HL := Lib.hid hl
  have HT := Lib.hid ht
  clear hl ht
  cases hth : thinB l with
  | false =>
    have HTh := Lib.hid (show (thinB l && decide ((⟨#[]⟩ : ByteArray).size ≤ 60)) = false by rw [hth]; rfl)
    clear hth
    go_enter Tryz.func3, Tryz.ntmps3
    have B1 := Box.new (w := w) (t := 24) (cs := #[v]) rfl
    have c1 := fun i => B1.cell i
    go_wp2_with fail
    refine (Thin_any v l ⟨#[]⟩ _ (HL.out.kept (up_alloc up0 _))).mono ?_
    rintro e w1 ⟨rfl, hb1⟩
    rw [HTh.out]
    have hB1 := up_later (up_alloc up0 _) hb1
    have B1 := B1.kept hb1
    have c1 := fun i => B1.cell i
    clear hb1
    go_wp2_with fail
    refine (awake_any _).mono ?_
    rintro e w9 ⟨rfl, hb9⟩
    go_wp2_with fail
    go_ret
    exact ⟨rfl, up_later hB1 hb9⟩
  | true =>
    have HTh := Lib.hid (show (thinB l && decide ((⟨#[]⟩ : ByteArray).size ≤ 60)) = true by rw [hth]; rfl)
    have hl9 : l.length ≤ 1000 := by
      unfold thinB at hth
      simp at hth
      omega
    clear hth
    by_cases h20 : 20 < t.length
    · have h20' : (20 : Int) < (t.length : Int) := by omega
      go_enter Tryz.func3, Tryz.ntmps3
      have B1 := Box.new (w := w) (t := 24) (cs := #[v]) rfl
      have c1 := fun i => B1.cell i
      go_wp2_with fail
      refine (Thin_any v l ⟨#[]⟩ _ (HL.out.kept (up_alloc up0 _))).mono ?_
      rintro e w1 ⟨rfl, hb1⟩
      rw [HTh.out]
      have hB1 := up_later (up_alloc up0 _) hb1
      have B1 := B1.kept hb1
      have c1 := fun i => B1.cell i
      clear hb1
      go_wp2_with fail
      refine (awake_any _).mono ?_
      rintro e w9 ⟨rfl, hb9⟩
      go_wp2_with fail
      go_ret
      exact ⟨rfl, up_later hB1 hb9⟩
    have h20' : ¬ (20 : Int) < (t.length : Int) := by omega
    have ht20 : t.length ≤ 1000 := by omega
    rcases codeE_three l with hc | hc | hc
    · have HE := Lib.hid hc
      by_cases h5 : 5 < t.length
      · have h5' : (5 : Int) < (t.length : Int) := by omega
        have hF : sendE l t = 3 := by unfold sendE; rw [hc, if_neg (by simp), if_pos h5]
        have HF := Lib.hid hF
        have HS := Lib.hid (sends_0 (l := l) (t := t) (by rw [hF]; decide))
        clear hc hF
        go_enter Tryz.func3, Tryz.ntmps3
        have B1 := Box.new (w := w) (t := 24) (cs := #[v]) rfl
        have c1 := fun i => B1.cell i
        go_wp2_with fail
        refine (Thin_any v l ⟨#[]⟩ _ (HL.out.kept (up_alloc up0 _))).mono ?_
        rintro e w1 ⟨rfl, hb1⟩
        rw [HTh.out]
        have hB1 := up_later (up_alloc up0 _) hb1
        have B1 := B1.kept hb1
        have c1 := fun i => B1.cell i
        clear hb1
        go_wp2_with fail
        refine (Code_any v l _ ((HL.out.kept hB1).rows hl9)).mono ?_
        rintro e w2 ⟨u2, rfl, hu2, hb2⟩
        have hB2 := up_later hB1 hb2
        have B1 := B1.kept hb2
        have c1 := fun i => B1.cell i
        clear hb2 hB1
        go_wp2_with fail
        refine (CheckCode_any u2 l _ hu2).mono ?_
        rintro e w3 ⟨rfl, hb3⟩
        rw [HE.out]
        have hB3 := up_later hB2 hb3
        have B1 := B1.kept hb3
        have c1 := fun i => B1.cell i
        clear hb3 hB2 hu2
        go_wp2_with fail
        refine (Code_any v l _ ((HL.out.kept hB3).rows hl9)).mono ?_
        rintro e w4 ⟨u4, rfl, hu4, hb4⟩
        have hB4 := up_later hB3 hb4
        have B1 := B1.kept hb4
        have c1 := fun i => B1.cell i
        clear hb4 hB3
        go_wp2_with fail
        refine (list_any _ t _ ((HT.out.kept hB4).rows ht20)).mono ?_
        rintro e w5 ⟨u5, rfl, hu5, hb5⟩
        have hB5 := up_later hB4 hb5
        have B1 := B1.kept hb5
        have c1 := fun i => B1.cell i
        have hu45 := hu4.kept hb5
        clear hb5 hB4 hu4
        go_wp2_with fail
        refine (Send_any u4 u5 l t _ hu45 hu5).mono ?_
        rintro e w6 ⟨rfl, hb6⟩
        rw [HF.out, HS.out]
        have hB6 := up_later hB5 hb6
        have B1 := B1.kept hb6
        have c1 := fun i => B1.cell i
        clear hb6 hB5 hu45 hu5
        go_wp2_with fail
        refine (fault_any v l _ (HL.out.kept hB6)).mono ?_
        rintro e w7 ⟨rfl, hb7⟩
        rw [HE.out]
        have hB7 := up_later hB6 hb7
        have B1 := B1.kept hb7
        have c1 := fun i => B1.cell i
        clear hb7 hB6
        go_wp2_with fail
        refine (awake_any _).mono ?_
        rintro e w9 ⟨rfl, hb9⟩
        go_wp2_with fail
        go_ret
        exact ⟨rfl, up_later hB7 hb9⟩
      · have h5' : ¬ (5 : Int) < (t.length : Int) := by omega
        cases hi : t.all (letB l.length) with
        | false =>
          have hF : sendE l t = 2 := by unfold sendE; rw [hc, if_neg (by simp), if_neg h5, if_pos hi]
          have HF := Lib.hid hF
          have HS := Lib.hid (sends_0 (l := l) (t := t) (by rw [hF]; decide))
          have HI := Lib.hid hi
          clear hc hF hi
          go_enter Tryz.func3, Tryz.ntmps3
          have B1 := Box.new (w := w) (t := 24) (cs := #[v]) rfl
          have c1 := fun i => B1.cell i
          go_wp2_with fail
          refine (Thin_any v l ⟨#[]⟩ _ (HL.out.kept (up_alloc up0 _))).mono ?_
          rintro e w1 ⟨rfl, hb1⟩
          rw [HTh.out]
          have hB1 := up_later (up_alloc up0 _) hb1
          have B1 := B1.kept hb1
          have c1 := fun i => B1.cell i
          clear hb1
          go_wp2_with fail
          refine (Code_any v l _ ((HL.out.kept hB1).rows hl9)).mono ?_
          rintro e w2 ⟨u2, rfl, hu2, hb2⟩
          have hB2 := up_later hB1 hb2
          have B1 := B1.kept hb2
          have c1 := fun i => B1.cell i
          clear hb2 hB1
          go_wp2_with fail
          refine (CheckCode_any u2 l _ hu2).mono ?_
          rintro e w3 ⟨rfl, hb3⟩
          rw [HE.out]
          have hB3 := up_later hB2 hb3
          have B1 := B1.kept hb3
          have c1 := fun i => B1.cell i
          clear hb3 hB2 hu2
          go_wp2_with fail
          refine (Code_any v l _ ((HL.out.kept hB3).rows hl9)).mono ?_
          rintro e w4 ⟨u4, rfl, hu4, hb4⟩
          have hB4 := up_later hB3 hb4
          have B1 := B1.kept hb4
          have c1 := fun i => B1.cell i
          clear hb4 hB3
          go_wp2_with fail
          refine (list_any _ t _ ((HT.out.kept hB4).rows ht20)).mono ?_
          rintro e w5 ⟨u5, rfl, hu5, hb5⟩
          have hB5 := up_later hB4 hb5
          have B1 := B1.kept hb5
          have c1 := fun i => B1.cell i
          have hu45 := hu4.kept hb5
          clear hb5 hB4 hu4
          go_wp2_with fail
          refine (Send_any u4 u5 l t _ hu45 hu5).mono ?_
          rintro e w6 ⟨rfl, hb6⟩
          rw [HF.out, HS.out]
          have hB6 := up_later hB5 hb6
          have B1 := B1.kept hb6
          have c1 := fun i => B1.cell i
          clear hb6 hB5 hu45 hu5
          go_wp2_with fail
          refine (fault_any v l _ (HL.out.kept hB6)).mono ?_
          rintro e w7 ⟨rfl, hb7⟩
          rw [HE.out]
          have hB7 := up_later hB6 hb7
          have B1 := B1.kept hb7
          have c1 := fun i => B1.cell i
          clear hb7 hB6
          go_wp2_with fail
          refine (IsText_any v _ l t _ ((HL.out.kept hB7).rows hl9) (HT.out.kept hB7)).mono ?_
          rintro e w8 ⟨rfl, hb8⟩
          rw [HI.out]
          have hB8 := up_later hB7 hb8
          clear hb8 hB7
          go_wp2_with fail
          refine (awake_any _).mono ?_
          rintro e w9 ⟨rfl, hb9⟩
          go_wp2_with fail
          go_ret
          exact ⟨rfl, up_later hB8 hb9⟩
        | true =>
          have hF : sendE l t = 0 := by unfold sendE; rw [hc, if_neg (by simp), if_neg h5, if_neg (by rw [hi]; simp)]
          have HF := Lib.hid hF
          obtain ⟨S, hS⟩ : ∃ S : ByteArray, ⟨(sgnI l t).toArray⟩ = S := ⟨_, rfl⟩
          have HS := Lib.hid (show (⟨(sendS l t).toArray⟩ : ByteArray) = S by unfold sendS; rw [if_pos hF, hS])
          have HS2 := Lib.hid hS
          have HI := Lib.hid hi
          have H4 := Lib.hid (codeB_four (codeE_len hc).2)
          clear hc hF hi hS
          go_enter Tryz.func3, Tryz.ntmps3
          have B1 := Box.new (w := w) (t := 24) (cs := #[v]) rfl
          have c1 := fun i => B1.cell i
          go_wp2_with fail
          refine (Thin_any v l ⟨#[]⟩ _ (HL.out.kept (up_alloc up0 _))).mono ?_
          rintro e w1 ⟨rfl, hb1⟩
          rw [HTh.out]
          have hB1 := up_later (up_alloc up0 _) hb1
          have B1 := B1.kept hb1
          have c1 := fun i => B1.cell i
          clear hb1
          go_wp2_with fail
          refine (Code_any v l _ ((HL.out.kept hB1).rows hl9)).mono ?_
          rintro e w2 ⟨u2, rfl, hu2, hb2⟩
          have hB2 := up_later hB1 hb2
          have B1 := B1.kept hb2
          have c1 := fun i => B1.cell i
          clear hb2 hB1
          go_wp2_with fail
          refine (CheckCode_any u2 l _ hu2).mono ?_
          rintro e w3 ⟨rfl, hb3⟩
          rw [HE.out]
          have hB3 := up_later hB2 hb3
          have B1 := B1.kept hb3
          have c1 := fun i => B1.cell i
          clear hb3 hB2 hu2
          go_wp2_with fail
          refine (Code_any v l _ ((HL.out.kept hB3).rows hl9)).mono ?_
          rintro e w4 ⟨u4, rfl, hu4, hb4⟩
          have hB4 := up_later hB3 hb4
          have B1 := B1.kept hb4
          have c1 := fun i => B1.cell i
          clear hb4 hB3
          go_wp2_with fail
          refine (list_any _ t _ ((HT.out.kept hB4).rows ht20)).mono ?_
          rintro e w5 ⟨u5, rfl, hu5, hb5⟩
          have hB5 := up_later hB4 hb5
          have B1 := B1.kept hb5
          have c1 := fun i => B1.cell i
          have hu45 := hu4.kept hb5
          clear hb5 hB4 hu4
          go_wp2_with fail
          refine (Send_any u4 u5 l t _ hu45 hu5).mono ?_
          rintro e w6 ⟨rfl, hb6⟩
          rw [HF.out, HS.out]
          have hB6 := up_later hB5 hb6
          have B1 := B1.kept hb6
          have c1 := fun i => B1.cell i
          clear hb6 hB5 hu45 hu5
          go_wp2_with fail
          refine (fault_any v l _ (HL.out.kept hB6)).mono ?_
          rintro e w7 ⟨rfl, hb7⟩
          rw [HE.out]
          have hB7 := up_later hB6 hb7
          have B1 := B1.kept hb7
          have c1 := fun i => B1.cell i
          clear hb7 hB6
          go_wp2_with fail
          refine (IsText_any v _ l t _ ((HL.out.kept hB7).rows hl9) (HT.out.kept hB7)).mono ?_
          rintro e w8 ⟨rfl, hb8⟩
          rw [HI.out]
          have hB8 := up_later hB7 hb8
          have B1 := B1.kept hb8
          have c1 := fun i => B1.cell i
          clear hb8 hB7
          go_wp2_with fail
          refine (Signs_any v _ l t _ ((HL.out.kept hB8).rows hl9) ((HT.out.kept hB8).rows ht20) H4.out (List.all_eq_true.1 HI.out)).mono ?_
          rintro e w10 ⟨rfl, hb10⟩
          rw [HS2.out]
          have hB10 := up_later hB8 hb10
          clear hb10 hB8
          go_wp2_with fail
          refine (awake_any _).mono ?_
          rintro e w9 ⟨rfl, hb9⟩
          go_wp2_with fail
          go_ret
          exact ⟨rfl, up_later hB10 hb9⟩
    · have HE := Lib.hid hc
      have hF : sendE l t = 1 := by unfold sendE; rw [hc]; rfl
      have HF := Lib.hid hF
      have HS := Lib.hid (sends_0 (l := l) (t := t) (by rw [hF]; decide))
      clear hc hF
      go_enter Tryz.func3, Tryz.ntmps3
      have B1 := Box.new (w := w) (t := 24) (cs := #[v]) rfl
      have c1 := fun i => B1.cell i
      go_wp2_with fail
      refine (Thin_any v l ⟨#[]⟩ _ (HL.out.kept (up_alloc up0 _))).mono ?_
      rintro e w1 ⟨rfl, hb1⟩
      rw [HTh.out]
      have hB1 := up_later (up_alloc up0 _) hb1
      have B1 := B1.kept hb1
      have c1 := fun i => B1.cell i
      clear hb1
      go_wp2_with fail
      refine (Code_any v l _ ((HL.out.kept hB1).rows hl9)).mono ?_
      rintro e w2 ⟨u2, rfl, hu2, hb2⟩
      have hB2 := up_later hB1 hb2
      have B1 := B1.kept hb2
      have c1 := fun i => B1.cell i
      clear hb2 hB1
      go_wp2_with fail
      refine (CheckCode_any u2 l _ hu2).mono ?_
      rintro e w3 ⟨rfl, hb3⟩
      rw [HE.out]
      have hB3 := up_later hB2 hb3
      have B1 := B1.kept hb3
      have c1 := fun i => B1.cell i
      clear hb3 hB2 hu2
      go_wp2_with fail
      refine (Code_any v l _ ((HL.out.kept hB3).rows hl9)).mono ?_
      rintro e w4 ⟨u4, rfl, hu4, hb4⟩
      have hB4 := up_later hB3 hb4
      have B1 := B1.kept hb4
      have c1 := fun i => B1.cell i
      clear hb4 hB3
      go_wp2_with fail
      refine (list_any _ t _ ((HT.out.kept hB4).rows ht20)).mono ?_
      rintro e w5 ⟨u5, rfl, hu5, hb5⟩
      have hB5 := up_later hB4 hb5
      have B1 := B1.kept hb5
      have c1 := fun i => B1.cell i
      have hu45 := hu4.kept hb5
      clear hb5 hB4 hu4
      go_wp2_with fail
      refine (Send_any u4 u5 l t _ hu45 hu5).mono ?_
      rintro e w6 ⟨rfl, hb6⟩
      rw [HF.out, HS.out]
      have hB6 := up_later hB5 hb6
      have B1 := B1.kept hb6
      have c1 := fun i => B1.cell i
      clear hb6 hB5 hu45 hu5
      go_wp2_with fail
      refine (fault_any v l _ (HL.out.kept hB6)).mono ?_
      rintro e w7 ⟨rfl, hb7⟩
      rw [HE.out]
      have hB7 := up_later hB6 hb7
      have B1 := B1.kept hb7
      have c1 := fun i => B1.cell i
      clear hb7 hB6
      go_wp2_with fail
      refine (awake_any _).mono ?_
      rintro e w9 ⟨rfl, hb9⟩
      go_wp2_with fail
      go_ret
      exact ⟨rfl, up_later hB7 hb9⟩
    · have HE := Lib.hid hc
      have hF : sendE l t = 3 := by unfold sendE; rw [hc]; rfl
      have HF := Lib.hid hF
      have HS := Lib.hid (sends_0 (l := l) (t := t) (by rw [hF]; decide))
      clear hc hF
      go_enter Tryz.func3, Tryz.ntmps3
      have B1 := Box.new (w := w) (t := 24) (cs := #[v]) rfl
      have c1 := fun i => B1.cell i
      go_wp2_with fail
      refine (Thin_any v l ⟨#[]⟩ _ (HL.out.kept (up_alloc up0 _))).mono ?_
      rintro e w1 ⟨rfl, hb1⟩
      rw [HTh.out]
      have hB1 := up_later (up_alloc up0 _) hb1
      have B1 := B1.kept hb1
      have c1 := fun i => B1.cell i
      clear hb1
      go_wp2_with fail
      refine (Code_any v l _ ((HL.out.kept hB1).rows hl9)).mono ?_
      rintro e w2 ⟨u2, rfl, hu2, hb2⟩
      have hB2 := up_later hB1 hb2
      have B1 := B1.kept hb2
      have c1 := fun i => B1.cell i
      clear hb2 hB1
      go_wp2_with fail
      refine (CheckCode_any u2 l _ hu2).mono ?_
      rintro e w3 ⟨rfl, hb3⟩
      rw [HE.out]
      have hB3 := up_later hB2 hb3
      have B1 := B1.kept hb3
      have c1 := fun i => B1.cell i
      clear hb3 hB2 hu2
      go_wp2_with fail
      refine (Code_any v l _ ((HL.out.kept hB3).rows hl9)).mono ?_
      rintro e w4 ⟨u4, rfl, hu4, hb4⟩
      have hB4 := up_later hB3 hb4
      have B1 := B1.kept hb4
      have c1 := fun i => B1.cell i
      clear hb4 hB3
      go_wp2_with fail
      refine (list_any _ t _ ((HT.out.kept hB4).rows ht20)).mono ?_
      rintro e w5 ⟨u5, rfl, hu5, hb5⟩
      have hB5 := up_later hB4 hb5
      have B1 := B1.kept hb5
      have c1 := fun i => B1.cell i
      have hu45 := hu4.kept hb5
      clear hb5 hB4 hu4
      go_wp2_with fail
      refine (Send_any u4 u5 l t _ hu45 hu5).mono ?_
      rintro e w6 ⟨rfl, hb6⟩
      rw [HF.out, HS.out]
      have hB6 := up_later hB5 hb6
      have B1 := B1.kept hb6
      have c1 := fun i => B1.cell i
      clear hb6 hB5 hu45 hu5
      go_wp2_with fail
      refine (fault_any v l _ (HL.out.kept hB6)).mono ?_
      rintro e w7 ⟨rfl, hb7⟩
      rw [HE.out]
      have hB7 := up_later hB6 hb7
      have B1 := B1.kept hb7
      have c1 := fun i => B1.cell i
      clear hb7 hB6
      go_wp2_with fail
      refine (awake_any _).mono ?_
      rintro e w9 ⟨rfl, hb9⟩
      go_wp2_with fail
      go_ret
      exact ⟨rfl, up_later hB7 hb9⟩
end Go.Proofs.YtonekgefegfapaaGreat

namespace Go.Proofs.YtonekgefegfapaaGreat
open Go.ChangeShapes Go.WideShapes Go.ChangeAt Go.RowKit

theorem und24 : Tryz.prog.underlying 24 = some (.struct (Tryz.prog.fieldsOf 24)) := by kernel_rfl
section
variable {H : Type} {enc : TypeId × Value → H} {W : World} {base : Nat} {spare : Nat → Bool} {held : Bool}
theorem open_str {fuel : Nat} {cs : List Value} {x : DataW H × List MemPlace} (h : DataW.trod enc Tryz.prog W base spare held fuel 9 cs = some x) : ∃ s : ByteArray, cs = sc s ∧ True := by
  obtain ⟨z, hz, _⟩ := DataW.trod_string Tryz.underlying9 h
  exact ⟨z, hz, trivial⟩
theorem open_words {fuel : Nat} {cs : List Value} {x : DataW H × List MemPlace} (h : DataW.trod enc Tryz.prog W base spare held fuel 22 cs = some x) : ∃ v l, cs = [v] ∧ RowsAny W v 1 sc l := by
  obtain ⟨v, l, e, r, _⟩ := open_rows (e := 9) (sz := 1) (cells := sc) (p := fun _ => True) (by kernel_rfl) (by kernel_rfl) (by omega) (fun _ _ _ h => open_str h) h
  exact ⟨v, l, e, r⟩
theorem open_code {fuel : Nat} {cs : List Value} {x : DataW H × List MemPlace} (h : DataW.trod enc Tryz.prog W base spare held fuel 24 cs = some x) : ∃ v l, cs = [v] ∧ RowsAny W v 1 sc l := by
  have hf : (Tryz.prog.fieldsOf 24).toList.map (fun f => (f.type, f.offset)) = [(22, 0)] := by kernel_rfl
  have hc : Tryz.prog.cellsOf 24 = 1 := by kernel_rfl
  obtain ⟨xs, m, _, _, hlen, hxs, hel⟩ := DataW.trod_struct und24 h
  generalize Tryz.prog.fieldsOf 24 = fs at hf hxs hel
  obtain ⟨fs⟩ := fs
  rcases fs with _ | ⟨f0, _ | ⟨f1, r⟩⟩ <;> simp at hf
  obtain ⟨t0, o0⟩ := hf
  have g0 := hel 0 f0 rfl
  have k22 : Tryz.prog.cellsOf 22 = 1 := by kernel_rfl
  rw [t0, o0, k22] at g0
  have hx1 : xs.length = 1 := by simpa using hxs
  obtain ⟨y0, hy0⟩ : ∃ y, xs[0]? = some y := ⟨_, List.getElem?_eq_getElem (by omega)⟩
  rw [hy0] at g0
  obtain ⟨v, l, e, r⟩ := open_words g0
  refine ⟨v, l, ?_, r⟩
  rw [hc] at hlen
  rcases cs with _ | ⟨a, _ | ⟨b, r⟩⟩ <;> simp at hlen
  exact e
theorem open_texts {fuel : Nat} {cs : List Value} {x : DataW H × List MemPlace} (h : DataW.trod enc Tryz.prog W base spare held fuel 50 cs = some x) : ∃ v ps, cs = [v] ∧ TextsAny W v ps := by
  obtain ⟨v, l, e, r, hp⟩ := open_rows (e := 25) (sz := 1) (cells := pc) (p := fun p => RowsAny W p.1 1 ic p.2) (by kernel_rfl) (by kernel_rfl) (by omega) (fun _ _ _ h => by
    obtain ⟨v, l, e, r⟩ := open_list h
    exact ⟨(v, l), e, r⟩) h
  exact ⟨v, l, e, r, hp⟩
end
end Go.Proofs.YtonekgefegfapaaGreat

namespace Go.Proofs.YtonekgefegfapaaGreat
open Go.ChangeShapes Go.WideShapes Go.ChangeAt Go.RowKit

set_option maxRecDepth 100000 in
theorem flashSends_lifted (os : Os) (started : os.Started) (H : Type) (enc : TypeId × Value → H) :
    ReturnsInHanded {} Tryz.checked os 3 .any (Rows.flashSendsSpec.pre6 enc Tryz.prog Tryz.f3 Rows.flashSendsRow.domain false) (Rows.flashSendsSpec.post enc Tryz.prog Tryz.f3 false true false false) := by
  refine returnsInHanded_of_change (C := Tryz.checked) own_knob started (by kernel_rfl) Tryz.func3
    (ChangeSpec.witness6 (enc := enc) (C := Tryz.checked) false ⟨#[], #[.agg #[.slice Option.none 0 0], .slice Option.none 0 0], []⟩ 8 (by kernel_rfl) (by kernel_rfl) (by kernel_rfl) (by kernel_rfl)) ?_
  intro W base args ds gs before hval0 hW hcnd _
  have hval : ∀ (j : Nat) t v, Tryz.f3.params[j]? = some t → args[j]? = some v → Value.okWide Tryz.prog W .any base t v := hval0
  have hW' := hW
  obtain ⟨p, q, hA0, hV, rfl, hfz, hnd⟩ := hW
  have hA : DataW.TrodAll enc Tryz.prog W 0 (fun _ => true) true Tryz.f3.params.toList args.toList ds p := hA0
  rw [Tryz.params3] at hA hval
  have hlt : ∀ x ∈ p, x.block < W.heap.size := fun x hx => hW'.lt x (List.mem_append_left _ hx)
  have hAk := hA
  obtain ⟨v0, vs0, d0, ds0, p0, q0, hargs, rfl, rfl, h0, r0⟩ := trodAll_cons hA
  obtain ⟨v1, vs1, d1, ds1, p1, q1, rfl, rfl, rfl, h1, r1⟩ := trodAll_cons r0
  obtain ⟨rfl, rfl, rfl⟩ := trodAll_nil r1
  obtain rfl : args = #[v0, v1] := by cases args; simp_all
  obtain ⟨rfl, rfl⟩ := trodVars_none hV
  obtain ⟨cs0, rfl, _⟩ := okWide_struct und24 (hval 0 24 v0 rfl rfl)
  obtain ⟨fuel0, h0⟩ := h0
  obtain ⟨u0, l0, e0, hl0⟩ := open_code h0
  obtain rfl : cs0 = #[u0] := by
    have h : cs0.toList = [u0] := e0
    cases cs0
    simp at h
    rw [h]
  obtain ⟨b1, len1, cap1, rfl⟩ := okWide_slice Tryz.underlying25 (hval 1 25 v1 rfl rfl)
  obtain ⟨fuel1, h1⟩ := h1
  obtain ⟨v, l1, e1, hl1⟩ := open_list h1
  obtain rfl : v = .slice b1 len1 cap1 := by
    have h : [Value.slice b1 len1 cap1] = [v] := e1
    injection h with h _
    exact h.symm
  clear hA0 hval0 hval hA
  simp only [List.append_nil] at hW'
  simp only [List.append_nil] at hAk hlt
  refine (sends_any _ l0 _ l1 W hl0 hl1).mono fun e W' ⟨he, hg⟩ => ?_
  subst he
  refine ⟨_, rfl, post_below (pv := []) hW' hg (fun _ _ _ => (trodAll_cons_mk (shut_bool Tryz.underlying4 _) trodAll_mk0)) (fun sp hsp => ?_) (fun _ _ => rfl) (List.append_nil _).symm
    (ok_one (by kernel_rfl) rfl (okWide_bool_mk Tryz.underlying4 _))⟩
  rw [Tryz.params3]
  refine args_stay laid_out hg (fun t ht => ?_) hAk hlt sp (fun x hx => hsp x (by first | exact hx | simpa using hx))
  simp only [List.mem_cons, List.not_mem_nil, or_false] at ht
  rcases ht with rfl | rfl
  · exact ⟨by kernel_rfl, by have h : decide (24 < Tryz.prog.types.size) = true := (by kernel_rfl); exact of_decide_eq_true h⟩
  · exact ⟨by kernel_rfl, by have h : decide (25 < Tryz.prog.types.size) = true := (by kernel_rfl); exact of_decide_eq_true h⟩

theorem flashSends_over : Rows.flashSendsRow.holds Tryz.pinned (OpenSpec.ofChange Rows.flashSendsSpec) :=
  OpenClaim.holds_of_wide 3 Tryz.f3 rfl rfl rfl rfl rfl rfl rfl ⟨rfl, rfl, rfl, rfl, rfl⟩ rfl rfl rfl rfl rfl (by kernel_rfl) Tryz.func3 (by kernel_rfl)
    (of_decide_eq_true (by kernel_rfl)) (by unfold Func.isWrapper; first | (rw [if_pos (by decide +kernel)]; kernel_rfl) | (rw [if_neg (by decide +kernel)]; exact ⟨rfl, rfl⟩))
    (fun os started H enc _ => flashSends_lifted os started H enc)

theorem FlashSends_holds : Rows.FlashSendsSaid := flashSends_over

end Go.Proofs.YtonekgefegfapaaGreat

