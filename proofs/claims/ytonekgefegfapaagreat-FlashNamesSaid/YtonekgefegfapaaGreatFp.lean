/-
  WALKS of (lines).follow and ProveSteps. Condition: strings of at most 1000 bytes.
-/
import Derived.Test.YtonekgefegfapaaGreatFm
import Derived.BigRegion
import Derived.Test.YtonekgefegfapaaGreatAn
namespace Go.Proofs.YtonekgefegfapaaGreat
open Go.RowKit

/-- One more step. -/
def stepF (S R : By) (o : Option ((Nat × Nat) × Nat)) (x : Int) : Option ((Nat × Nat) × Nat) := match o with
  | none => none
  | some (p, e) => if 0 ≤ x ∧ x < 6 then match aftI S R p x.toNat with
    | some q => some (q, e + errsN x.toNat)
    | none => none
    else none
/-- Where the steps lead to, and their errors. -/
def folI (S R : By) (l : List Int) : Option ((Nat × Nat) × Nat) := l.foldl (stepF S R) (some ((0, 0), 0))
theorem folI_take {S R : By} {l : List Int} {k : Nat} {x : Int} (hx : l[k]? = some x) : folI S R (l.take (k + 1)) = stepF S R (folI S R (l.take k)) x := by
  unfold folI
  rw [List.take_add_one, hx]
  simp
theorem folI_none {S R : By} {l : List Int} {k : Nat} (h : folI S R (l.take k) = none) : folI S R l = none := by
  have hn : ∀ m : List Int, m.foldl (stepF S R) none = none := fun m => by
    induction m with
    | nil => rfl
    | cons x m ih => exact ih
  unfold folI at h ⊢
  rw [← List.take_append_drop k l, List.foldl_append, h]
  exact hn _
/-- What follow hands back. -/
def folV (S R : By) (l : List Int) : Value := match folI S R l with
  | none => .tuple #[iv 0, .bool false]
  | some (p, e) => .tuple #[iv e, .bool (decide (p = (S.length, R.length)))]
theorem folV_none {S R : By} {l : List Int} (h : folI S R l = none) : folV S R l = .tuple #[iv 0, .bool false] := by unfold folV; rw [h]
set_option maxRecDepth 100000 in
set_option maxHeartbeats 3000000 in
theorem follow_any (g : Nat) (s r : ByteArray) (v : Value) (l : List Int) (w : World) (h : Box w g 137 (linesC s r)) (hs9 : s.size ≤ 1000) (hr9 : r.size ≤ 1000) (hl : RowsAny w v 1 ic l) :
    Calls Tryz.prog 66 #[.pointer (some ⟨g, 0, none⟩), v] w fun e w' => e = .returned (folV s.data.toList r.data.toList l) ∧ Below w.heap.size w w' := by
  obtain ⟨A, cap, hv, hcap, hmax⟩ := hl.form
  subst hv
  have hlen : l.length ≤ 9223372036854775807 := Nat.le_trans hcap hmax
  clear hcap hmax
  have HL := Lib.hid h
  have hg := h.lt
  clear h
  go_enter Tryz.func66, Tryz.ntmps66
  go_wp2_with fail
  go_loopw [7, 15] (fun m i wr => ∃ k a c e : Nat, k ≤ l.length ∧ i = iv k ∧ m = iv e ∧ Hid (folI s.data.toList r.data.toList (l.take k) = some ((a, c), e)) ∧ Hid (Box wr w.heap.size 89 #[iv a, iv c]) ∧ a ≤ s.size ∧ c ≤ r.size ∧ e ≤ a + c ∧ Below w.heap.size w wr) (fun _ i _ => l.length - (intOf i).toNat)
  case atStart => exact ⟨0, 0, 0, 0, by omega, rfl, rfl, rfl, Box.new rfl, by omega, by omega, by omega, up_alloc up0 _⟩
  case round =>
    obtain ⟨k, a, c, e, hk, rfl, rfl, HF, HB6, ha, hc, he, hB⟩ := hrel
    by_cases hlt : k < l.length
    · obtain ⟨x, hx⟩ : ∃ x, l[k]? = some x := ⟨_, List.getElem?_eq_getElem hlt⟩
      obtain ⟨b, off, rfl, hb, hcc⟩ := (hl.kept hB).at rfl hx
      have Hx := Lib.hid (folI_take (S := s.data.toList) (R := r.data.toList) hx)
      have q0 : wr.cell? ⟨b, off + k, none⟩ = some (.int .i64 x) := by simpa using hcc 0 _ rfl
      clear hx hcc
      by_cases x0 : x < 0
      · go_wp2_with fail
        go_ret2
        refine ⟨?_, hB⟩
        rw [folV_none (folI_none (k := k + 1) (by rw [Hx.out, HF.out]; simp only [stepF]; rw [if_neg (by omega)]))]
        rfl
      · by_cases x6 : 6 ≤ x
        · go_wp2_with fail
          go_ret2
          refine ⟨?_, hB⟩
          rw [folV_none (folI_none (k := k + 1) (by rw [Hx.out, HF.out]; simp only [stepF]; rw [if_neg (by omega)]))]
          rfl
        · obtain ⟨n, rfl⟩ : ∃ n : Nat, x = n := ⟨x.toNat, by omega⟩
          have hn6 : n < 6 := by omega
          have x6' : (n : Int) < 6 := by omega
          have b6 := HB6.out
          have c6 := fun i => b6.cell i
          have l6 := b6.lt
          go_wp2_with fail
          refine (after_any g a c n s r wr hn6 (HL.out.kept hB) ha hc hs9 hr9).mono ?_
          rintro e1 w1 ⟨rfl, hb1⟩
          have hB1 := up_later hB hb1
          cases hq : aftI s.data.toList r.data.toList (a, c) n with
          | none =>
            have Hq := Lib.hid hq
            simp only [aftV]
            clear hq c6
            go_wp2_with fail
            go_ret2
            refine ⟨?_, up_alloc hB1 _⟩
            rw [folV_none (folI_none (k := k + 1) (by rw [Hx.out, HF.out]; simp only [stepF]; rw [if_pos (by omega), Int.toNat_natCast, Hq.out]))]
            rfl
          | some q =>
            obtain ⟨a', c'⟩ := q
            simp only [aftV]
            have hls := Lib.size_eq s
            have hlr := Lib.size_eq r
            have hin := aftI_in hn6 (by omega) (by omega) hq
            have hen : errsN n ≤ 1 := by unfold errsN; split <;> omega
            obtain ⟨en, hen2⟩ : ∃ en, errsN n = en := ⟨_, rfl⟩
            have HN := Lib.hid (show folI s.data.toList r.data.toList (l.take (k + 1)) = some ((a', c'), e + en) by
              rw [Hx.out, HF.out]
              simp only [stepF]
              rw [if_pos (by omega), Int.toNat_natCast, hq]
              simp only [hen2])
            rw [hen2] at hen
            have HEn := Lib.hid hen2
            have ha' : a' ≤ s.size := by omega
            have hc' : c' ≤ r.size := by omega
            have he' : e + en ≤ a' + c' := by omega
            have b6 := b6.kept hb1
            clear hq hls hlr hen2 c6 l6
            go_wp2_with fail
            have hB2 := up_alloc hB1 (.cells #[iv a', iv c'] 89)
            have b6' := b6.alloc (.cells #[iv a', iv c'] 89)
            have b9 := Box.new (w := w1) (t := 89) (cs := #[iv a', iv c']) rfl
            obtain ⟨X, hX⟩ : ∃ X, w1.alloc (.cells #[iv a', iv c'] 89) = X := ⟨_, rfl⟩
            rw [hX] at hB2 b6' b9 ⊢
            have q3 : X.cell? ⟨g, 2 + n * 4 + 3, none⟩ = some (iv (en : Nat)) := HEn.out ▸ lines_err (HL.out.kept hB2) hn6
            have l9 := b9.lt
            have l6 := b6'.lt
            have hne : w1.heap.size ≠ w.heap.size := by
              have := b6.lt
              omega
            have c6 := fun i => b6'.cell i
            have f6 := fun i => b6'.free i
            have c9 := fun i => b9.cell i
            have hg1 : g < X.heap.size := Nat.lt_of_lt_of_le hg hB2.size
            have k0 : (0 : Int) ≤ (n : Int) := by omega
            have hW : IntKind.i64.wrap ((e : Int) + (en : Int)) = (e : Int) + (en : Int) := wrapK_in _ 3000 (by omega) (by omega)
            clear hX hB1 b6
            go_region
            clear q3 c6 f6 c9
            go_wp2_with fail
            go_roundw
            case rel => exact ⟨k + 1, a', c', e + en, by omega, by go_num, by go_num, HN, Lib.hid (Box.put2 b6').drew, ha', hc', he', up_drew (up_put (up_put hB2 (p := ⟨w.heap.size, 0, none⟩) (Nat.le_refl _) _) (p := ⟨w.heap.size, 1, none⟩) (Nat.le_refl _) _)⟩
            case measure => simp [intOf]; omega
    · have hF := HF.out
      rw [List.take_of_length_le (by omega)] at hF
      have b6 := HB6.out
      by_cases hend : a = s.size ∧ c = r.size
      · obtain ⟨rfl, rfl⟩ := hend
        have Hr := Lib.hid (show folV s.data.toList r.data.toList l = .tuple #[iv e, .bool true] by
          unfold folV
          rw [hF]
          simp only
          rw [decide_eq_true (by rw [Lib.size_eq, Lib.size_eq])])
        clear hF
        go_wp2_with fail
        apply wp_region_by 7 [(Fact.eq _), (Fact.eq _), (Fact.eq _), (Fact.eq _), (Fact.eq _), (Fact.eq _), (Fact.eq _)]
        case hm => kernel_rfl
        case hB => kernel_rfl
        case hA => (intro vs; simp only [List.take_succ_cons, List.take_zero, putAll, if_true, Act.put, List.setIfInBounds_toArray, List.set_cons_zero, List.set_cons_succ]; exact rfl)
        case hstep =>
          intro vs
          refine And.intro (fun w hw hd => ?_) ?_
          · refine ite_yes rfl ?_
            simp only [Gives]
            go_simp
            exact ⟨Below.refl _ _, rfl, fun h => by cases h⟩
          refine And.intro (fun w hw hd => ?_) ?_
          · refine ite_yes rfl ?_
            have c_b6 := fun i => (b6.kept hw).cell i
            simp only [Gives]
            go_simp
            exact ⟨Below.refl _ _, rfl, fun h => by cases h⟩
          refine And.intro (fun w hw hd => ?_) ?_
          · refine ite_yes rfl ?_
            simp only [Gives]
            go_simp
            exact ⟨Below.refl _ _, rfl, fun h => by cases h⟩
          refine And.intro (fun w hw hd => ?_) ?_
          · have d2 := hd 2 (by decide) rfl
            change vs 2 = _ at d2
            refine ite_yes rfl ?_
            simp only [Gives]
            go_simp
            refine (end_any g s r w (HL.out.kept (up_later hB hw))).mono ?_
            rintro e w1 ⟨rfl, hb⟩
            exact ⟨_, rfl, hb, rfl, fun h => by cases h⟩
          refine And.intro (fun w hw hd => ?_) ?_
          · have d1 := hd 1 (by decide) rfl
            change vs 1 = _ at d1
            have d3 := hd 3 (by decide) rfl
            change vs 3 = _ at d3
            refine ite_yes rfl ?_
            simp only [Gives]
            go_simp
            exact ⟨Below.refl _ _, rfl, fun h => by cases h⟩
          refine And.intro (fun w hw hd => ?_) ?_
          · have d0 := hd 0 (by decide) rfl
            change vs 0 = _ at d0
            refine ite_yes rfl ?_
            simp only [Gives]
            go_simp
            exact ⟨Below.refl _ _, rfl, fun h => by cases h⟩
          refine And.intro (fun w hw hd => ?_) ?_
          · have d4 := hd 4 (by decide) rfl
            change vs 4 = _ at d4
            refine ite_yes rfl ?_
            simp only [Gives]
            go_simp
            exact ⟨Below.refl _ _, rfl, fun h => by cases h⟩
          exact trivial
        intro vs wt hw hd hne hlo
        have d0 := hd 0 (by decide)
        change vs 0 = _ at d0
        have d1 := hd 1 (by decide)
        change vs 1 = _ at d1
        have d2 := hd 2 (by decide)
        change vs 2 = _ at d2
        have d3 := hd 3 (by decide)
        change vs 3 = _ at d3
        have d4 := hd 4 (by decide)
        change vs 4 = _ at d4
        have d5 := hd 5 (by decide)
        change vs 5 = _ at d5
        have d6 := hd 6 (by decide)
        change vs 6 = _ at d6
        simp only [d0, d1, d2, d3, d4, d5, d6, List.drop_succ_cons, List.drop_nil]
        have b6 := b6.kept hw
        have c_b6 := fun i => b6.cell i
        have f_b6 := fun i => b6.free i
        clear hd hne hlo d0 d1 d2 d3 d4 d5 d6
        go_wp2_with fail
        go_ret2
        exact ⟨by rw [Hr.out]; rfl, up_later hB hw⟩
      · have HE2 : Hid ((a : Int) = (s.size : Int) → ¬ (c : Int) = (r.size : Int)) := Lib.hid fun h1 h2 => hend ⟨by omega, by omega⟩
        have Hr := Lib.hid (show folV s.data.toList r.data.toList l = .tuple #[iv e, .bool false] by
          unfold folV
          rw [hF]
          simp only
          rw [decide_eq_false]
          intro h
          injection h with h1 h2
          exact hend ⟨by rw [Lib.size_eq]; exact h1, by rw [Lib.size_eq]; exact h2⟩)
        clear hF hend
        go_wp2_with fail
        apply wp_region_by 7 [(Fact.eq _), (Fact.eq _), (Fact.eq _), (Fact.eq _), (Fact.eq (.bool false)), (Fact.eq _), (Fact.eq _)]
        case hm => kernel_rfl
        case hB => kernel_rfl
        case hA => (intro vs; simp only [List.take_succ_cons, List.take_zero, putAll, if_true, Act.put, List.setIfInBounds_toArray, List.set_cons_zero, List.set_cons_succ]; exact rfl)
        case hstep =>
          intro vs
          refine And.intro (fun w hw hd => ?_) ?_
          · refine ite_yes rfl ?_
            simp only [Gives]
            go_simp
            exact ⟨Below.refl _ _, rfl, fun h => by cases h⟩
          refine And.intro (fun w hw hd => ?_) ?_
          · refine ite_yes rfl ?_
            have c_b6 := fun i => (b6.kept hw).cell i
            simp only [Gives]
            go_simp
            exact ⟨Below.refl _ _, rfl, fun h => by cases h⟩
          refine And.intro (fun w hw hd => ?_) ?_
          · refine ite_yes rfl ?_
            simp only [Gives]
            go_simp
            exact ⟨Below.refl _ _, rfl, fun h => by cases h⟩
          refine And.intro (fun w hw hd => ?_) ?_
          · have d2 := hd 2 (by decide) rfl
            change vs 2 = _ at d2
            refine ite_yes rfl ?_
            simp only [Gives]
            go_simp
            refine (end_any g s r w (HL.out.kept (up_later hB hw))).mono ?_
            rintro e w1 ⟨rfl, hb⟩
            exact ⟨_, rfl, hb, rfl, fun h => by cases h⟩
          refine And.intro (fun w hw hd => ?_) ?_
          · have d1 := hd 1 (by decide) rfl
            change vs 1 = _ at d1
            have d3 := hd 3 (by decide) rfl
            change vs 3 = _ at d3
            refine ite_yes rfl ?_
            simp only [Gives]
            go_simp
            by_cases q1 : (a : Int) = (s.size : Int)
            · (have q2 := HE2.out q1; rw [if_pos q1, if_neg q2]; exact ⟨Below.refl _ _, rfl, fun h => by cases h⟩)
            · (rw [if_neg q1]; exact ⟨Below.refl _ _, rfl, fun h => by cases h⟩)
          refine And.intro (fun w hw hd => ?_) ?_
          · have d0 := hd 0 (by decide) rfl
            change vs 0 = _ at d0
            refine ite_yes rfl ?_
            simp only [Gives]
            go_simp
            exact ⟨Below.refl _ _, rfl, fun h => by cases h⟩
          refine And.intro (fun w hw hd => ?_) ?_
          · have d4 := hd 4 (by decide) rfl
            change vs 4 = _ at d4
            refine ite_yes rfl ?_
            simp only [Gives]
            go_simp
            exact ⟨Below.refl _ _, rfl, fun h => by cases h⟩
          exact trivial
        intro vs wt hw hd hne hlo
        have d0 := hd 0 (by decide)
        change vs 0 = _ at d0
        have d1 := hd 1 (by decide)
        change vs 1 = _ at d1
        have d2 := hd 2 (by decide)
        change vs 2 = _ at d2
        have d3 := hd 3 (by decide)
        change vs 3 = _ at d3
        have d4 := hd 4 (by decide)
        change vs 4 = _ at d4
        have d5 := hd 5 (by decide)
        change vs 5 = _ at d5
        have d6 := hd 6 (by decide)
        change vs 6 = _ at d6
        simp only [d0, d1, d2, d3, d5, d6, List.drop_succ_cons, List.drop_nil]
        have b6 := b6.kept hw
        have c_b6 := fun i => b6.cell i
        have f_b6 := fun i => b6.free i
        clear hd hne hlo d0 d1 d2 d3 d5 d6
        simp only [Nat.zero_add, Nat.reduceAdd, d4]
        go_wp2_with fail
        go_ret2
        exact ⟨by rw [Hr.out]; rfl, up_later hB hw⟩
/-- Whether steps explain what is read, with at most so many errors. -/
def proveB (s r : ByteArray) (l : List Int) (m : Int) : Bool := if signsE [s, r] ≠ 0 then false else match folI s.data.toList r.data.toList l with
  | none => false
  | some (p, e) => decide (p = (s.data.toList.length, r.data.toList.length)) && decide ((e : Int) ≤ m)
theorem signs_40 {s r : ByteArray} (h : signsE [s, r] = 0) : s.size ≤ 40 ∧ r.size ≤ 40 := by
  unfold signsE at h
  split at h
  · cases h
  · rename_i h1
    have h2 : [s, r].all (fun s => decide (s.size ≤ 40)) = true := by
      cases hq : [s, r].all (fun s => decide (s.size ≤ 40)) with
      | true => rfl
      | false => exact absurd hq h1
    simpa using h2
set_option maxRecDepth 100000 in
set_option maxHeartbeats 1500000 in
theorem ProveSteps_any (s r : ByteArray) (v : Value) (l : List Int) (m : Int) (w : World) (hl : RowsAny w v 1 ic l) : Calls Tryz.prog 33 #[.string s, .string r, v, iv m] w fun e w' => e = .returned (.bool (proveB s r l m)) ∧ Below w.heap.size w w' := by
  obtain ⟨A, cap, hv, -, -⟩ := hl.form
  subst hv
  obtain ⟨E, hE⟩ : ∃ E, signsE [s, r] = E := ⟨_, rfl⟩
  have HE := Lib.hid hE
  by_cases c1 : E = 0
  · subst c1
    obtain ⟨h40, h41⟩ := signs_40 hE
    cases hf : folI s.data.toList r.data.toList l with
    | none =>
      have HV := Lib.hid (show folV s.data.toList r.data.toList l = .tuple #[iv 0, .bool false] from folV_none hf)
      have Hr := Lib.hid (show false = proveB s r l m by unfold proveB; rw [if_neg (by rw [hE]; simp), hf])
      clear hE hf
      go_enter Tryz.func33, Tryz.ntmps33
      go_wp2_with fail
      refine (checkSigns_any _ [s, r] _ (rows_two (Box.new rfl))).mono ?_
      rintro e w1 ⟨rfl, hb⟩
      rw [HE.out]
      have hB := up_later (up_alloc up0 _) hb
      clear hb
      go_wp2_with fail
      refine (newLines_any s r w1).mono ?_
      rintro e w2 ⟨gl, rfl, bl, lo, hb⟩
      have hB2 := up_later hB hb
      clear hB hb
      go_wp2_with fail
      refine (follow_any gl s r (.slice A l.length cap) l w2 bl (by omega) (by omega) (hl.kept hB2)).mono ?_
      rintro e w3 ⟨rfl, hb⟩
      have hB3 := up_later hB2 hb
      rw [HV.out]
      clear hb hB2
      go_wp2_with fail
      go_ret
      exact ⟨ret_bool Hr.out, hB3⟩
    | some q =>
      obtain ⟨p, n⟩ := q
      by_cases hp : p = (s.data.toList.length, r.data.toList.length)
      · have HV := Lib.hid (show folV s.data.toList r.data.toList l = .tuple #[iv n, .bool true] by unfold folV; rw [hf]; simp only; rw [decide_eq_true hp])
        by_cases hm : (n : Int) ≤ m
        · have Hr := Lib.hid (show true = proveB s r l m by unfold proveB; rw [if_neg (by rw [hE]; simp), hf]; simp only; rw [decide_eq_true hp, decide_eq_true hm]; rfl)
          clear hE hf hp
          go_enter Tryz.func33, Tryz.ntmps33
          go_wp2_with fail
          refine (checkSigns_any _ [s, r] _ (rows_two (Box.new rfl))).mono ?_
          rintro e w1 ⟨rfl, hb⟩
          rw [HE.out]
          have hB := up_later (up_alloc up0 _) hb
          clear hb
          go_wp2_with fail
          refine (newLines_any s r w1).mono ?_
          rintro e w2 ⟨gl, rfl, bl, lo, hb⟩
          have hB2 := up_later hB hb
          clear hB hb
          go_wp2_with fail
          refine (follow_any gl s r (.slice A l.length cap) l w2 bl (by omega) (by omega) (hl.kept hB2)).mono ?_
          rintro e w3 ⟨rfl, hb⟩
          have hB3 := up_later hB2 hb
          rw [HV.out]
          clear hb hB2
          go_wp2_with fail
          go_ret
          exact ⟨ret_bool Hr.out, hB3⟩
        · have Hr := Lib.hid (show decide ((n : Int) ≤ m) = proveB s r l m by unfold proveB; rw [if_neg (by rw [hE]; simp), hf]; simp only; rw [decide_eq_true hp, Bool.true_and])
          clear hE hf hp
          go_enter Tryz.func33, Tryz.ntmps33
          go_wp2_with fail
          refine (checkSigns_any _ [s, r] _ (rows_two (Box.new rfl))).mono ?_
          rintro e w1 ⟨rfl, hb⟩
          rw [HE.out]
          have hB := up_later (up_alloc up0 _) hb
          clear hb
          go_wp2_with fail
          refine (newLines_any s r w1).mono ?_
          rintro e w2 ⟨gl, rfl, bl, lo, hb⟩
          have hB2 := up_later hB hb
          clear hB hb
          go_wp2_with fail
          refine (follow_any gl s r (.slice A l.length cap) l w2 bl (by omega) (by omega) (hl.kept hB2)).mono ?_
          rintro e w3 ⟨rfl, hb⟩
          have hB3 := up_later hB2 hb
          rw [HV.out]
          clear hb hB2
          go_wp2_with fail
          go_ret
          exact ⟨ret_bool Hr.out, hB3⟩
      · have HV := Lib.hid (show folV s.data.toList r.data.toList l = .tuple #[iv n, .bool false] by unfold folV; rw [hf]; simp only; rw [decide_eq_false hp])
        have Hr := Lib.hid (show false = proveB s r l m by unfold proveB; rw [if_neg (by rw [hE]; simp), hf]; simp only; rw [decide_eq_false hp]; rfl)
        clear hE hf hp
        go_enter Tryz.func33, Tryz.ntmps33
        go_wp2_with fail
        refine (checkSigns_any _ [s, r] _ (rows_two (Box.new rfl))).mono ?_
        rintro e w1 ⟨rfl, hb⟩
        rw [HE.out]
        have hB := up_later (up_alloc up0 _) hb
        clear hb
        go_wp2_with fail
        refine (newLines_any s r w1).mono ?_
        rintro e w2 ⟨gl, rfl, bl, lo, hb⟩
        have hB2 := up_later hB hb
        clear hB hb
        go_wp2_with fail
        refine (follow_any gl s r (.slice A l.length cap) l w2 bl (by omega) (by omega) (hl.kept hB2)).mono ?_
        rintro e w3 ⟨rfl, hb⟩
        have hB3 := up_later hB2 hb
        rw [HV.out]
        clear hb hB2
        go_wp2_with fail
        go_ret
        exact ⟨ret_bool Hr.out, hB3⟩
  · have Hr := Lib.hid (show proveB s r l m = false by unfold proveB; rw [if_pos (by rw [hE]; exact c1)])
    have e1 : (E == 0) = false := by rw [beq_eq_false_iff_ne]; exact c1
    have e2 : (E != 0) = true := by rw [bne, e1]; rfl
    clear hE c1
    go_enter Tryz.func33, Tryz.ntmps33
    go_wp2_with fail
    refine (checkSigns_any _ [s, r] _ (rows_two (Box.new rfl))).mono ?_
    rintro e w1 ⟨rfl, hb⟩
    rw [HE.out]
    have hB := up_later (up_alloc up0 _) hb
    clear hb
    go_wp2_with fail
    go_ret
    exact ⟨ret_bool Hr.out.symm, hB⟩
end Go.Proofs.YtonekgefegfapaaGreat
