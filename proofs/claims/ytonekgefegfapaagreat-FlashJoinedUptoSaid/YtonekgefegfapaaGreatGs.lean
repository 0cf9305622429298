/-
  FlashJoined (P2.7), what it weighs: the fewest errors of two joined pieces are at most the sum of the fewest of both. WALK of FlashJoined. Condition: pieces of at most 1048576 bytes.
-/
import Derived.Test.YtonekgefegfapaaGreatGq
namespace Go.Proofs.YtonekgefegfapaaGreat
open Go.RowKit

theorem pre_more {B T W : By} (h : Lib.hasPrefix B W = true) : Lib.hasPrefix (B ++ T) W = true := by
  unfold Lib.hasPrefix at h ⊢
  rw [List.isPrefixOf_iff_prefix] at h ⊢
  exact h.trans (List.prefix_append _ _)
/-- A step within the first part is a step of both together. -/
theorem aft_more {S R T U : By} {i j k a c : Nat} (hi : i ≤ S.length) (hj : j ≤ R.length) (h : aftI S R (i, j) k = some (a, c)) : aftI (S ++ T) (R ++ U) (i, j) k = some (a, c) := by
  unfold aftI at h ⊢
  simp only [List.drop_append_of_le_length hi, List.drop_append_of_le_length hj] at h ⊢
  by_cases hc : (needsB k (S.drop i) && Lib.hasPrefix (R.drop j) (writesL k (S.drop i))) = true
  · rw [if_pos hc] at h
    obtain ⟨n1, n2⟩ := Bool.and_eq_true _ _ ▸ hc
    have hw : writesL k (S.drop i ++ T) = writesL k (S.drop i) := by
      rcases k with _ | _ | _ | _ | _ | k
      · have : 0 < (S.drop i).length := by simpa [needsB] using n1
        exact List.take_append_of_le_length this
      all_goals rfl
    have hn : needsB k (S.drop i ++ T) = true := by
      rcases k with _ | _ | _ | _ | _ | k
      · have : 0 < (S.drop i).length := by simpa [needsB] using n1
        simp only [needsB, List.length_append, decide_eq_true_eq]
        omega
      · simp only [needsB, Bool.or_eq_true] at n1 ⊢
        exact n1.imp pre_more pre_more
      · exact pre_more n1
      · exact pre_more n1
      · exact pre_more n1
      · rfl
    rw [hw, hn, pre_more n2]
    exact h
  · rw [if_neg hc] at h
    cases h
/-- A step of the second part is a step of both together, further on. -/
theorem aft_later {S R T U : By} {i j k a c : Nat} (h : aftI T U (i, j) k = some (a, c)) : aftI (S ++ T) (R ++ U) (S.length + i, R.length + j) k = some (S.length + a, R.length + c) := by
  unfold aftI at h ⊢
  have e1 : (S ++ T).drop (S.length + i) = T.drop i := by simp [List.drop_append]
  have e2 : (R ++ U).drop (R.length + j) = U.drop j := by simp [List.drop_append]
  simp only [e1, e2]
  by_cases hc : (needsB k (T.drop i) && Lib.hasPrefix (U.drop j) (writesL k (T.drop i))) = true
  · rw [if_pos hc] at h ⊢
    injection h with h
    injection h with h1 h2
    rw [← h1, ← h2, Nat.add_assoc, Nat.add_assoc]
  · rw [if_neg hc] at h
    cases h
theorem few_later {S R T U : By} : ∀ (f i j : Nat), leftN T U (i, j) ≤ f → i ≤ T.length → j ≤ U.length → fewI (S ++ T) (R ++ U) (S.length + i, R.length + j) ≤ fewI T U (i, j) := by
  intro f
  induction f using Nat.strongRecOn with
  | _ f IH =>
    intro i j hf hi hj
    by_cases hp : (i, j) = (T.length, U.length)
    · injection hp with e1 e2
      subst e1
      subst e2
      have e := fewI_end (S ++ T) (R ++ U)
      rw [List.length_append, List.length_append] at e
      rw [e]
      exact Nat.zero_le _
    · by_cases h : fewI T U (i, j) < 120
      · obtain ⟨k, ⟨a, c⟩, hk, hq, he⟩ := few_best (p := (i, j)) hi hj hp h
        have hin := aftI_in hk hi hj hq
        rcases f with _ | f
        · unfold leftN at hf
          simp only at hf
          omega
        · unfold leftN at hf
          simp only at hf
          have ih := IH f (Nat.lt_succ_self f) a c (by unfold leftN; simp only; omega) hin.2.1 hin.2.2.2.1
          have hs := few_step (S := S ++ T) (R := R ++ U) (p := (S.length + i, R.length + j)) (by simp; omega) (by simp; omega) (by intro e; injection e with e1 e2; simp at e1 e2; exact hp (by rw [e1, e2])) hk (aft_later hq)
          omega
      · have := fewI_le (S := S ++ T) (R := R ++ U) (p := (S.length + i, R.length + j)) (by simp; omega) (by simp; omega)
        omega
theorem few_joined {S R T U : By} : ∀ (f i j : Nat), leftN S R (i, j) ≤ f → i ≤ S.length → j ≤ R.length → fewI (S ++ T) (R ++ U) (i, j) ≤ fewI S R (i, j) + fewI T U (0, 0) := by
  intro f
  induction f using Nat.strongRecOn with
  | _ f IH =>
    intro i j hf hi hj
    by_cases hp : (i, j) = (S.length, R.length)
    · injection hp with e1 e2
      subst e1
      subst e2
      have := few_later (S := S) (R := R) (T := T) (U := U) (leftN T U (0, 0)) 0 0 (Nat.le_refl _) (Nat.zero_le _) (Nat.zero_le _)
      simp only [Nat.add_zero] at this
      omega
    · by_cases h : fewI S R (i, j) < 120
      · obtain ⟨k, ⟨a, c⟩, hk, hq, he⟩ := few_best (p := (i, j)) hi hj hp h
        have hin := aftI_in hk hi hj hq
        rcases f with _ | f
        · unfold leftN at hf
          simp only at hf
          omega
        · unfold leftN at hf
          simp only at hf
          have ih := IH f (Nat.lt_succ_self f) a c (by unfold leftN; simp only; omega) hin.2.1 hin.2.2.2.1
          have hs := few_step (S := S ++ T) (R := R ++ U) (p := (i, j)) (by simp; omega) (by simp; omega) (by
            intro e
            injection e with e1 e2
            simp at e1 e2
            exact hp (by rw [show i = S.length by omega, show j = R.length by omega])) hk (aft_more hi hj hq)
          omega
      · have := fewI_le (S := S ++ T) (R := R ++ U) (p := (i, j)) (by simp; omega) (by simp; omega)
        omega
/-- Each error goes through a sign, or reads one. -/
theorem few_room {S R : By} : ∀ (f i j : Nat), leftN S R (i, j) ≤ f → i ≤ S.length → j ≤ R.length → fewI S R (i, j) < 120 → fewI S R (i, j) ≤ (S.length - i) + (R.length - j) := by
  intro f
  induction f using Nat.strongRecOn with
  | _ f IH =>
    intro i j hf hi hj h
    by_cases hp : (i, j) = (S.length, R.length)
    · injection hp with e1 e2
      subst e1
      subst e2
      rw [fewI_end]
      exact Nat.zero_le _
    · obtain ⟨k, ⟨a, c⟩, hk, hq, he⟩ := few_best (p := (i, j)) hi hj hp h
      have hin := aftI_in hk hi hj hq
      rcases f with _ | f
      · unfold leftN at hf
        simp only at hf
        omega
      · unfold leftN at hf
        simp only at hf
        have hen : errsN k ≤ 1 := by unfold errsN; split <;> omega
        have ih := IH f (Nat.lt_succ_self f) a c (by unfold leftN; simp only; omega) hin.2.1 hin.2.2.2.1 (by omega)
        omega
theorem all_two {a b : ByteArray} {S : ByteArray} (h : a ++ b = S) : S.data.toList = a.data.toList ++ b.data.toList := by rw [← h]; simp
theorem part_signs {a b c d S T : ByteArray} (hS : a ++ b = S) (hT : c ++ d = T) (h : signsE [S, T] = 0) : signsE [a, c] = 0 ∧ signsE [b, d] = 0 := by
  have zS : S.size = a.size + b.size := by rw [← hS, ByteArray.size_append]
  have zT : T.size = c.size + d.size := by rw [← hT, ByteArray.size_append]
  rw [signs_two] at h ⊢
  rw [signs_two]
  split at h
  · cases h
  · split at h
    · rename_i h1 h2
      rw [all_two hS, all_two hT] at h2
      simp only [List.all_append, Bool.and_eq_true] at h2
      obtain ⟨⟨g1, g2⟩, g3, g4⟩ := h2
      refine ⟨?_, ?_⟩
      · rw [if_neg (by omega), if_pos]
        rw [List.all_append, g1, g3]
        rfl
      · rw [if_neg (by omega), if_pos]
        rw [List.all_append, g2, g4]
        rfl
    · cases h
theorem search_two {s r : ByteArray} (h : signsE [s, r] = 0) : searchE s r = 0 ∨ searchE s r = 11 := by
  unfold searchE
  rw [h, if_neg (by simp)]
  split
  · exact .inr rfl
  · exact .inl rfl
theorem search_few {s r : ByteArray} (h : signsE [s, r] = 0) : searchE s r = 0 ↔ fewI s.data.toList r.data.toList (0, 0) < 120 := by
  have := fewI_le (S := s.data.toList) (R := r.data.toList) (p := (0, 0)) (Nat.zero_le _) (Nat.zero_le _)
  unfold searchE
  rw [h, if_neg (by simp)]
  split
  · exact ⟨fun h => (by cases h), fun h => (by omega)⟩
  · exact ⟨fun _ => by omega, fun _ => rfl⟩
theorem errs_few {s r : ByteArray} (h : searchE s r = 0) : errorsN s r = fewI s.data.toList r.data.toList (0, 0) := by unfold errorsN; rw [if_pos h]
theorem joined_fine {a b c d S T : ByteArray} (hS : a ++ b = S) (hT : c ++ d = T) (h : signsE [S, T] = 0) (h1 : searchE a c = 0) (h2 : searchE b d = 0) : searchE S T = 0 ∧ errorsN S T ≤ errorsN a c + errorsN b d ∧ errorsN a c + errorsN b d < 120 := by
  have zS : S.size = a.size + b.size := by rw [← hS, ByteArray.size_append]
  have zT : T.size = c.size + d.size := by rw [← hT, ByteArray.size_append]
  have h40 := signs_40 h
  obtain ⟨g1, g2⟩ := part_signs hS hT h
  have f1 := (search_few g1).1 h1
  have f2 := (search_few g2).1 h2
  have r1 := few_room (S := a.data.toList) (R := c.data.toList) (leftN a.data.toList c.data.toList (0, 0)) 0 0 (Nat.le_refl _) (Nat.zero_le _) (Nat.zero_le _) f1
  have r2 := few_room (S := b.data.toList) (R := d.data.toList) (leftN b.data.toList d.data.toList (0, 0)) 0 0 (Nat.le_refl _) (Nat.zero_le _) (Nat.zero_le _) f2
  have hj := few_joined (S := a.data.toList) (R := c.data.toList) (T := b.data.toList) (U := d.data.toList) (leftN a.data.toList c.data.toList (0, 0)) 0 0 (Nat.le_refl _) (Nat.zero_le _) (Nat.zero_le _)
  rw [← all_two hS, ← all_two hT] at hj
  rw [← Lib.size_eq a, ← Lib.size_eq c] at r1
  rw [← Lib.size_eq b, ← Lib.size_eq d] at r2
  have h3 : searchE S T = 0 := (search_few h).2 (by omega)
  rw [errs_few h1, errs_few h2, errs_few h3]
  exact ⟨h3, hj, by omega⟩
set_option maxRecDepth 100000 in
set_option maxHeartbeats 3000000 in
theorem joined_any (a b c d : ByteArray) (w : World) (ha : a.size ≤ 1048576) (hb : b.size ≤ 1048576) (hc : c.size ≤ 1048576) (hd : d.size ≤ 1048576) : Calls Tryz.prog 13 #[.string a, .string b, .string c, .string d] w fun e w' => e = .returned (.bool true) ∧ Below w.heap.size w w' := by
  have k1 : ¬ 9223372036854775807 < a.size + b.size := by omega
  have k2 : ¬ 9223372036854775807 < c.size + d.size := by omega
  obtain ⟨S, hS⟩ : ∃ S, a ++ b = S := ⟨_, rfl⟩
  obtain ⟨T, hT⟩ : ∃ T, c ++ d = T := ⟨_, rfl⟩
  obtain ⟨E, hE⟩ : ∃ E, signsE [S, T] = E := ⟨_, rfl⟩
  have HE := Lib.hid hE
  by_cases hE0 : E = 0
  · subst hE0
    obtain ⟨g1, g2⟩ := part_signs hS hT hE
    have q1 := search_two g1
    have q2 := search_two g2
    have q3 := search_two hE
    by_cases hgood : searchE a c = 0 ∧ searchE b d = 0
    · obtain ⟨h3, h4, h5⟩ := joined_fine hS hT hE hgood.1 hgood.2
      have H1 := Lib.hid hgood.1
      have H2 := Lib.hid hgood.2
      have H3 := Lib.hid h3
      obtain ⟨n1, e1⟩ : ∃ n, errorsN a c = n := ⟨_, rfl⟩
      obtain ⟨n2, e2⟩ : ∃ n, errorsN b d = n := ⟨_, rfl⟩
      obtain ⟨n3, e3⟩ : ∃ n, errorsN S T = n := ⟨_, rfl⟩
      rw [e1, e2, e3] at h4
      rw [e1, e2] at h5
      have N1 := Lib.hid e1
      have N2 := Lib.hid e2
      have N3 := Lib.hid e3
      have hle : ¬ wrap64 ((n1 : Int) + (n2 : Int)) < (n3 : Int) := by unfold wrap64; omega
      have hle2 : ¬ ((n1 : Int) + (n2 : Int)) < (n3 : Int) := by omega
      clear hE g1 g2 q1 q2 q3 hgood h3 h4 e1 e2 e3
      go_enter Tryz.func13, Tryz.ntmps13
      go_wp2_with fail
      refine (signed_any S T _).mono ?_
      rintro e w1 ⟨rfl, hb1⟩
      rw [HE.out]
      go_wp2_with fail
      refine (Errors_any a c _).mono ?_
      rintro e w2 ⟨rfl, hb2⟩
      rw [H1.out, N1.out]
      go_wp2_with fail
      refine (Errors_any b d _).mono ?_
      rintro e w3 ⟨rfl, hb3⟩
      rw [H2.out, N2.out]
      go_wp2_with fail
      refine (Errors_any S T _).mono ?_
      rintro e w4 ⟨rfl, hb4⟩
      rw [H3.out, N3.out]
      have hB := up_later (up_later (up_later hb1 hb2) hb3) hb4
      clear hb1 hb2 hb3 hb4
      go_wp2_with fail
      refine (awake_any _).mono ?_
      rintro e w5 ⟨rfl, hb5⟩
      go_wp2_with fail
      go_ret
      exact ⟨rfl, up_later hB hb5⟩
    · clear g1 g2 hE
      rcases q1 with q1 | q1
      · rcases q2 with q2 | q2
        · exact absurd ⟨q1, q2⟩ hgood
        · rcases q3 with q3 | q3
          · have H1 := Lib.hid q1
            have H2 := Lib.hid q2
            have H3 := Lib.hid q3
            clear q1 q2 q3 hgood
            go_enter Tryz.func13, Tryz.ntmps13
            go_wp2_with fail
            refine (signed_any S T _).mono ?_
            rintro e w1 ⟨rfl, hb1⟩
            rw [HE.out]
            go_wp2_with fail
            refine (Errors_any a c _).mono ?_
            rintro e w2 ⟨rfl, hb2⟩
            rw [H1.out]
            go_wp2_with fail
            refine (Errors_any b d _).mono ?_
            rintro e w3 ⟨rfl, hb3⟩
            rw [H2.out]
            go_wp2_with fail
            refine (Errors_any S T _).mono ?_
            rintro e w4 ⟨rfl, hb4⟩
            rw [H3.out]
            have hB := up_later (up_later (up_later hb1 hb2) hb3) hb4
            clear hb1 hb2 hb3 hb4
            go_wp2_with fail
            refine (awake_any _).mono ?_
            rintro e w5 ⟨rfl, hb5⟩
            go_wp2_with fail
            go_ret
            exact ⟨rfl, up_later hB hb5⟩
          · have H1 := Lib.hid q1
            have H2 := Lib.hid q2
            have H3 := Lib.hid q3
            clear q1 q2 q3 hgood
            go_enter Tryz.func13, Tryz.ntmps13
            go_wp2_with fail
            refine (signed_any S T _).mono ?_
            rintro e w1 ⟨rfl, hb1⟩
            rw [HE.out]
            go_wp2_with fail
            refine (Errors_any a c _).mono ?_
            rintro e w2 ⟨rfl, hb2⟩
            rw [H1.out]
            go_wp2_with fail
            refine (Errors_any b d _).mono ?_
            rintro e w3 ⟨rfl, hb3⟩
            rw [H2.out]
            go_wp2_with fail
            refine (Errors_any S T _).mono ?_
            rintro e w4 ⟨rfl, hb4⟩
            rw [H3.out]
            have hB := up_later (up_later (up_later hb1 hb2) hb3) hb4
            clear hb1 hb2 hb3 hb4
            go_wp2_with fail
            refine (awake_any _).mono ?_
            rintro e w5 ⟨rfl, hb5⟩
            go_wp2_with fail
            go_ret
            exact ⟨rfl, up_later hB hb5⟩
      · rcases q2 with q2 | q2
        · rcases q3 with q3 | q3
          · have H1 := Lib.hid q1
            have H2 := Lib.hid q2
            have H3 := Lib.hid q3
            clear q1 q2 q3 hgood
            go_enter Tryz.func13, Tryz.ntmps13
            go_wp2_with fail
            refine (signed_any S T _).mono ?_
            rintro e w1 ⟨rfl, hb1⟩
            rw [HE.out]
            go_wp2_with fail
            refine (Errors_any a c _).mono ?_
            rintro e w2 ⟨rfl, hb2⟩
            rw [H1.out]
            go_wp2_with fail
            refine (Errors_any b d _).mono ?_
            rintro e w3 ⟨rfl, hb3⟩
            rw [H2.out]
            go_wp2_with fail
            refine (Errors_any S T _).mono ?_
            rintro e w4 ⟨rfl, hb4⟩
            rw [H3.out]
            have hB := up_later (up_later (up_later hb1 hb2) hb3) hb4
            clear hb1 hb2 hb3 hb4
            go_wp2_with fail
            refine (awake_any _).mono ?_
            rintro e w5 ⟨rfl, hb5⟩
            go_wp2_with fail
            go_ret
            exact ⟨rfl, up_later hB hb5⟩
          · have H1 := Lib.hid q1
            have H2 := Lib.hid q2
            have H3 := Lib.hid q3
            clear q1 q2 q3 hgood
            go_enter Tryz.func13, Tryz.ntmps13
            go_wp2_with fail
            refine (signed_any S T _).mono ?_
            rintro e w1 ⟨rfl, hb1⟩
            rw [HE.out]
            go_wp2_with fail
            refine (Errors_any a c _).mono ?_
            rintro e w2 ⟨rfl, hb2⟩
            rw [H1.out]
            go_wp2_with fail
            refine (Errors_any b d _).mono ?_
            rintro e w3 ⟨rfl, hb3⟩
            rw [H2.out]
            go_wp2_with fail
            refine (Errors_any S T _).mono ?_
            rintro e w4 ⟨rfl, hb4⟩
            rw [H3.out]
            have hB := up_later (up_later (up_later hb1 hb2) hb3) hb4
            clear hb1 hb2 hb3 hb4
            go_wp2_with fail
            refine (awake_any _).mono ?_
            rintro e w5 ⟨rfl, hb5⟩
            go_wp2_with fail
            go_ret
            exact ⟨rfl, up_later hB hb5⟩
        · rcases q3 with q3 | q3
          · have H1 := Lib.hid q1
            have H2 := Lib.hid q2
            have H3 := Lib.hid q3
            clear q1 q2 q3 hgood
            go_enter Tryz.func13, Tryz.ntmps13
            go_wp2_with fail
            refine (signed_any S T _).mono ?_
            rintro e w1 ⟨rfl, hb1⟩
            rw [HE.out]
            go_wp2_with fail
            refine (Errors_any a c _).mono ?_
            rintro e w2 ⟨rfl, hb2⟩
            rw [H1.out]
            go_wp2_with fail
            refine (Errors_any b d _).mono ?_
            rintro e w3 ⟨rfl, hb3⟩
            rw [H2.out]
            go_wp2_with fail
            refine (Errors_any S T _).mono ?_
            rintro e w4 ⟨rfl, hb4⟩
            rw [H3.out]
            have hB := up_later (up_later (up_later hb1 hb2) hb3) hb4
            clear hb1 hb2 hb3 hb4
            go_wp2_with fail
            refine (awake_any _).mono ?_
            rintro e w5 ⟨rfl, hb5⟩
            go_wp2_with fail
            go_ret
            exact ⟨rfl, up_later hB hb5⟩
          · have H1 := Lib.hid q1
            have H2 := Lib.hid q2
            have H3 := Lib.hid q3
            clear q1 q2 q3 hgood
            go_enter Tryz.func13, Tryz.ntmps13
            go_wp2_with fail
            refine (signed_any S T _).mono ?_
            rintro e w1 ⟨rfl, hb1⟩
            rw [HE.out]
            go_wp2_with fail
            refine (Errors_any a c _).mono ?_
            rintro e w2 ⟨rfl, hb2⟩
            rw [H1.out]
            go_wp2_with fail
            refine (Errors_any b d _).mono ?_
            rintro e w3 ⟨rfl, hb3⟩
            rw [H2.out]
            go_wp2_with fail
            refine (Errors_any S T _).mono ?_
            rintro e w4 ⟨rfl, hb4⟩
            rw [H3.out]
            have hB := up_later (up_later (up_later hb1 hb2) hb3) hb4
            clear hb1 hb2 hb3 hb4
            go_wp2_with fail
            refine (awake_any _).mono ?_
            rintro e w5 ⟨rfl, hb5⟩
            go_wp2_with fail
            go_ret
            exact ⟨rfl, up_later hB hb5⟩
  · have e0 : (E == 0) = false := beq_eq_false_iff_ne.2 hE0
    clear hE
    go_enter Tryz.func13, Tryz.ntmps13
    go_wp2_with fail
    refine (signed_any S T _).mono ?_
    rintro e w1 ⟨rfl, hb1⟩
    rw [HE.out]
    go_wp2_with fail
    refine (awake_any _).mono ?_
    rintro e w5 ⟨rfl, hb5⟩
    go_wp2_with fail
    go_ret
    exact ⟨rfl, up_later hb1 hb5⟩
end Go.Proofs.YtonekgefegfapaaGreat
