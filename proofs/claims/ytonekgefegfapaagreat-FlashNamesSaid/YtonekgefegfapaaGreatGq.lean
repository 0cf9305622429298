/-
  FlashProves (P2.1, P2.4). WALKS of list and FlashProves. No condition.
-/
import Derived.Test.YtonekgefegfapaaGreatGp
namespace Go.Proofs.YtonekgefegfapaaGreat
open Go.RowKit

set_option maxRecDepth 100000 in
set_option maxHeartbeats 1000000 in
theorem list_own (v : Value) (l : List Int) (w : World) (hl : RowsAt w v 1 ic l) : Calls Tryz.prog 23 #[v] w fun e w' => ∃ u, e = .returned u ∧ w'.ownsRow w.heap.size 3 1 u l.length (l.map iv) ∧ Below w.heap.size w w' := by
  obtain ⟨hlen, A, cap, hv, hcap, hmax⟩ := hl.form
  subst hv
  cases A with
  | none =>
    have hl0 : l = [] := by
      rcases hl with ⟨_, A', cap', h1, _, _, h4⟩
      injection h1 with h1
      subst h1
      rcases l with _ | ⟨x, l⟩
      · rfl
      · obtain ⟨b, off, e, _⟩ := h4 (by simp)
        cases e
    subst hl0
    clear hl
    go_enter Tryz.func23, Tryz.ntmps23
    go_wp2_with fail
    go_ret
    exact ⟨_, rfl, World.ownsRow_made w #[] 0 (Nat.le_refl _) (Nat.zero_le _) rfl, up_alloc up0 _⟩
  | some ad =>
    obtain ⟨i0, hi0, hz0, hz1, hz2⟩ := info_parts int_info
    have HL := Lib.hid hl
    clear hl
    have und25 := Tryz.underlying25
    go_enter Tryz.func23, Tryz.ntmps23
    go_wp2_with (at_builtin; refine wpList_append_own _ rfl _ _ 25 rfl w.heap.size 3 i0 (.int .i64 0) 1 8 und25 hi0 hz0 hz1 hz2 rfl (by decide) _ _ _ rfl (World.ownsRow_made w #[] 0 (Nat.le_refl _) (Nat.zero_le _) rfl) ad l.length cap (l.map fun x => iv x) rfl (by simp) ?qc2 ?qc3 (by unfold maxLen; omega) (by omega) (by simp) ?_)
    case qc2 =>
      intro j u hj
      rw [List.getElem?_map, Option.map_eq_some_iff] at hj
      obtain ⟨x, hx, rfl⟩ := hj
      obtain ⟨b, off, e, hb, hc⟩ := HL.out.at rfl hx
      injection e with e
      subst e
      have := hc 0 _ rfl
      rw [addr_add]
      exact Lib.cell?_alloc_some _ (by simpa using this)
    case qc3 =>
      intro u hu
      obtain ⟨x, _, rfl⟩ := List.mem_map.1 hu
      rfl
    intro v' w1 hown hgrow hnil
    go_wp2_with fail
    go_ret
    refine ⟨_, rfl, by simpa using hown, ?_⟩
    exact ((Below.refl _ w).alloc (Nat.le_refl _) _).grown hgrow (by simp) (by intro k hk; simp [Value.ownBlock] at hk; omega)
theorem flat_ic (l : List Int) : l.flatMap ic = l.map fun x => iv x := by
  induction l with
  | nil => rfl
  | cons x l ih => rw [List.flatMap_cons, ih]; rfl
theorem list_any (v : Value) (l : List Int) (w : World) (hl : RowsAt w v 1 ic l) : Calls Tryz.prog 23 #[v] w fun e w' => ∃ u, e = .returned u ∧ RowsAny w' u 1 ic l ∧ Below w.heap.size w w' := by
  have h1 := hl.1
  refine (list_own v l w hl).mono ?_
  rintro e w' ⟨u, rfl, ho, hb⟩
  exact ⟨u, rfl, (rows_of_own (cells := ic) (by rw [flat_ic]; exact ho) rfl (fun _ => rfl) h1).2, hb⟩
theorem needR_signs {k : Nat} {l : By} (h : l.all signB = true) : needR k l = needsB k l := by
  rcases k with _ | _ | k
  · rfl
  · rcases l with _ | ⟨c, t⟩
    · rfl
    · have hc : signB c = true := List.all_eq_true.1 h c (List.mem_cons_self ..)
      rcases (signB_iff c).1 hc with rfl | rfl | rfl <;> simp [needR, needsB, Lib.hasPrefix, List.isPrefixOf]
  · rfl
theorem step_same {S R : By} (h : S.all signB = true) : stepG S R = stepF S R := by
  funext o x
  rcases o with _ | ⟨p, e⟩
  · rfl
  · have hd : (S.drop p.1).all signB = true := List.all_eq_true.2 (fun c hc => List.all_eq_true.1 h c (List.mem_of_mem_drop hc))
    simp only [stepG, stepF, stepR, aftI, needR_signs hd]
    by_cases hx : 0 ≤ x ∧ x < 6
    · rw [if_pos hx, if_pos hx]
      by_cases hc : (needsB x.toNat (S.drop p.1) && Lib.hasPrefix (R.drop p.2) (writesL x.toNat (S.drop p.1))) = true
      · rw [if_pos hc, if_pos hc]
      · rw [if_neg hc, if_neg hc]
    · rw [if_neg hx, if_neg hx]
theorem fol_same {S R : By} (h : S.all signB = true) (l : List Int) : folR S R l = folI S R l := by
  unfold folR folI
  rw [step_same h]
theorem fold_in {S R : By} : ∀ (l : List Int) (o : Option ((Nat × Nat) × Nat)), (∀ p e, o = some (p, e) → p.1 ≤ S.length ∧ p.2 ≤ R.length) → ∀ p e, l.foldl (stepF S R) o = some (p, e) → p.1 ≤ S.length ∧ p.2 ≤ R.length
  | [], _, h, p, e, hf => h p e hf
  | x :: l, o, h, p, e, hf => by
    refine fold_in l (stepF S R o x) (fun p e hp => ?_) p e hf
    rcases o with _ | ⟨q, d⟩
    · cases hp
    · have hq := h q d rfl
      simp only [stepF] at hp
      by_cases hx : 0 ≤ x ∧ x < 6
      · rw [if_pos hx] at hp
        cases ha : aftI S R q x.toNat with
        | none => rw [ha] at hp; cases hp
        | some a =>
          rw [ha] at hp
          obtain ⟨q1, q2⟩ := q
          obtain ⟨a1, a2⟩ := a
          have := aftI_in (by omega) hq.1 hq.2 ha
          injection hp with hp
          injection hp with hp _
          rw [← hp]
          exact ⟨this.2.1, this.2.2.2.1⟩
      · rw [if_neg hx] at hp
        cases hp
theorem folI_in {S R : By} {l : List Int} {p : Nat × Nat} {e : Nat} (h : folI S R l = some (p, e)) : p.1 ≤ S.length ∧ p.2 ≤ R.length := fold_in l _ (fun p e h => by injection h with h; injection h with h _; rw [← h]; exact ⟨Nat.zero_le _, Nat.zero_le _⟩) p e h
theorem drop_done {S : By} {n : Nat} (h : n ≤ S.length) : (S.drop n).isEmpty = decide (n = S.length) := by
  rw [Bool.eq_iff_iff, List.isEmpty_iff, decide_eq_true_eq, List.drop_eq_nil_iff]
  omega
/-- What the law compares, of what Do hands back. -/
theorem prove_same {s r : ByteArray} {l : List Int} (m : Int) (h : signsE [s, r] = 0) : ∃ (n : Nat) (d : Bool), doV s.data.toList r.data.toList l = .tuple #[iv n, .bool d] ∧ proveB s r l m = (d && decide ((n : Int) ≤ m)) := by
  have hS : s.data.toList.all signB = true := by
    rw [signs_two] at h
    split at h
    · cases h
    · split at h
      · rename_i h2
        rw [List.all_append, Bool.and_eq_true] at h2
        exact h2.1
      · cases h
  unfold doV proveB
  rw [h, if_neg (by simp), fol_same hS]
  cases hf : folI s.data.toList r.data.toList l with
  | none => exact ⟨0, false, rfl, rfl⟩
  | some q =>
    obtain ⟨⟨a, c⟩, e⟩ := q
    have hin := folI_in hf
    refine ⟨e, _, rfl, ?_⟩
    simp only
    have e2 : decide ((a, c) = (s.data.toList.length, r.data.toList.length)) = (decide (a = s.data.toList.length) && decide (c = r.data.toList.length)) := by
      rw [Bool.eq_iff_iff]
      simp
    rw [drop_done hin.1, drop_done hin.2, e2]
theorem do_form (S R : By) (l : List Int) : ∃ (n : Nat) (d : Bool), doV S R l = .tuple #[iv n, .bool d] := by
  unfold doV
  split
  · exact ⟨0, false, rfl⟩
  · exact ⟨_, _, rfl⟩
set_option maxRecDepth 100000 in
set_option maxHeartbeats 1500000 in
theorem proves_any (s r : ByteArray) (v : Value) (l : List Int) (m : Int) (w : World) (hl : RowsAny w v 1 ic l) : Calls Tryz.prog 5 #[.string s, .string r, v, iv m] w fun e w' => e = .returned (.bool true) ∧ Below w.heap.size w w' := by
  obtain ⟨A, cap, hv, hcap, hmax⟩ := hl.form
  subst hv
  by_cases hfat : 60 < s.size ∨ 60 < r.size ∨ 100 < l.length
  · clear hl
    by_cases h1 : 60 < s.size
    · have h1' : (60 : Int) < (s.size : Int) := by omega
      go_enter Tryz.func5, Tryz.ntmps5
      go_wp2_with fail
      refine (awake_any _).mono ?_
      rintro e w4 ⟨rfl, hb4⟩
      go_wp2_with fail
      go_ret
      exact ⟨rfl, hb4⟩
    have h1' : ¬ (60 : Int) < (s.size : Int) := by omega
    by_cases h2 : 60 < r.size
    · have h2' : (60 : Int) < (r.size : Int) := by omega
      go_enter Tryz.func5, Tryz.ntmps5
      go_wp2_with fail
      refine (awake_any _).mono ?_
      rintro e w4 ⟨rfl, hb4⟩
      go_wp2_with fail
      go_ret
      exact ⟨rfl, hb4⟩
    have h2' : ¬ (60 : Int) < (r.size : Int) := by omega
    have h3' : (100 : Int) < (l.length : Int) := by omega
    go_enter Tryz.func5, Tryz.ntmps5
    go_wp2_with fail
    refine (awake_any _).mono ?_
    rintro e w4 ⟨rfl, hb4⟩
    go_wp2_with fail
    go_ret
    exact ⟨rfl, hb4⟩
  have h1' : ¬ (60 : Int) < (s.size : Int) := by omega
  have h2' : ¬ (60 : Int) < (r.size : Int) := by omega
  have h3' : ¬ (100 : Int) < (l.length : Int) := by omega
  have h9 : l.length ≤ 1000 := by omega
  clear hfat hcap hmax
  have HL := Lib.hid hl
  clear hl
  obtain ⟨E, hE⟩ : ∃ E, signsE [s, r] = E := ⟨_, rfl⟩
  have HE := Lib.hid hE
  by_cases hE0 : E = 0
  · subst hE0
    obtain ⟨n, d, hd, hp⟩ := prove_same (l := l) m hE
    have HD := Lib.hid hd
    have HP := Lib.hid hp
    clear hE hd hp
    go_enter Tryz.func5, Tryz.ntmps5
    go_wp2_with fail
    refine (list_any _ l _ (HL.out.rows h9)).mono ?_
    rintro e w1 ⟨u, rfl, hu, hb1⟩
    go_wp2_with fail
    refine (ProveSteps_any s r u l m _ hu).mono ?_
    rintro e w2 ⟨rfl, hb2⟩
    rw [HP.out]
    have hB2 := up_later hb1 hb2
    clear hb1 hb2 hu
    go_wp2_with fail
    refine (Do_any s r _ l _ (HL.out.kept hB2) h9).mono ?_
    rintro e w3 ⟨rfl, hb3⟩
    rw [HD.out]
    have hB3 := up_later hB2 hb3
    clear hb3 hB2
    go_wp2_with fail
    refine (signed_any s r _).mono ?_
    rintro e w4 ⟨rfl, hb4⟩
    rw [HE.out]
    have hB4 := up_later hB3 hb4
    clear hb4 hB3
    cases d with
    | false =>
      go_wp2_with fail
      refine (awake_any _).mono ?_
      rintro e w5 ⟨rfl, hb5⟩
      go_wp2_with fail
      go_ret
      exact ⟨rfl, up_later hB4 hb5⟩
    | true =>
      by_cases hm : (n : Int) ≤ m
      · have e1 : (true && decide ((n : Int) ≤ m)) = true := by rw [decide_eq_true hm]; rfl
        rw [e1]
        go_wp2_with fail
        refine (awake_any _).mono ?_
        rintro e w5 ⟨rfl, hb5⟩
        go_wp2_with fail
        go_ret
        exact ⟨rfl, up_later hB4 hb5⟩
      · have e1 : (true && decide ((n : Int) ≤ m)) = false := by rw [decide_eq_false hm]; rfl
        rw [e1]
        go_wp2_with fail
        refine (awake_any _).mono ?_
        rintro e w5 ⟨rfl, hb5⟩
        go_wp2_with fail
        go_ret
        exact ⟨rfl, up_later hB4 hb5⟩
  · have HP := Lib.hid (show proveB s r l m = false by unfold proveB; rw [hE, if_pos hE0])
    obtain ⟨n, d, hd⟩ := do_form s.data.toList r.data.toList l
    have HD := Lib.hid hd
    have e0 : (E == 0) = false := beq_eq_false_iff_ne.2 hE0
    clear hE hd
    go_enter Tryz.func5, Tryz.ntmps5
    go_wp2_with fail
    refine (list_any _ l _ (HL.out.rows h9)).mono ?_
    rintro e w1 ⟨u, rfl, hu, hb1⟩
    go_wp2_with fail
    refine (ProveSteps_any s r u l m _ hu).mono ?_
    rintro e w2 ⟨rfl, hb2⟩
    rw [HP.out]
    have hB2 := up_later hb1 hb2
    clear hb1 hb2 hu
    go_wp2_with fail
    refine (Do_any s r _ l _ (HL.out.kept hB2) h9).mono ?_
    rintro e w3 ⟨rfl, hb3⟩
    rw [HD.out]
    have hB3 := up_later hB2 hb3
    clear hb3 hB2
    go_wp2_with fail
    refine (signed_any s r _).mono ?_
    rintro e w4 ⟨rfl, hb4⟩
    rw [HE.out]
    have hB4 := up_later hB3 hb4
    clear hb4 hB3
    go_wp2_with fail
    refine (awake_any _).mono ?_
    rintro e w5 ⟨rfl, hb5⟩
    go_wp2_with fail
    go_ret
    exact ⟨rfl, up_later hB4 hb5⟩
end Go.Proofs.YtonekgefegfapaaGreat
