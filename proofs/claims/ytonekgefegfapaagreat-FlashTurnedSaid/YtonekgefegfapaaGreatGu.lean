/-
  FlashTurned (P2.12): the fewest errors of both strings turned round. WALK of turned and FlashTurned. No condition.
-/
import Derived.Test.YtonekgefegfapaaGreatGq
namespace Go.Proofs.YtonekgefegfapaaGreat
open Go.RowKit

/-- What a step goes through, and what it reads; both read the same backwards. -/
inductive Piece : Nat → By → By → Prop
  | copy (c : UInt8) : Piece 0 [c] [c]
  | lostS : Piece 1 [46] []
  | lostL : Piece 1 [45] []
  | short : Piece 2 [45] [46, 46]
  | long : Piece 3 [46, 46] [45]
  | gap : Piece 4 [32] []
  | made : Piece 5 [] [32]
theorem Piece.turn {k : Nat} {p q : By} (h : Piece k p q) : p.reverse = p ∧ q.reverse = q := by
  cases h <;> exact ⟨rfl, rfl⟩
theorem pre_drop {l p : By} (h : Lib.hasPrefix l p = true) : l = p ++ l.drop p.length := by
  unfold Lib.hasPrefix at h
  obtain ⟨r, rfl⟩ := List.isPrefixOf_iff_prefix.1 h
  simp
theorem pre_self (p r : By) : Lib.hasPrefix (p ++ r) p = true := by
  unfold Lib.hasPrefix
  rw [List.isPrefixOf_iff_prefix]
  exact List.prefix_append _ _
theorem piece_of {S R : By} {i j k a c : Nat} (hk : k < 6) (h : aftI S R (i, j) k = some (a, c)) : ∃ p q, Piece k p q ∧ S.drop i = p ++ S.drop a ∧ R.drop j = q ++ R.drop c ∧ a = i + p.length ∧ c = j + q.length := by
  unfold aftI at h
  by_cases hc : (needsB k (S.drop i) && Lib.hasPrefix (R.drop j) (writesL k (S.drop i))) = true
  · rw [if_pos hc] at h
    obtain ⟨n1, n2⟩ := Bool.and_eq_true _ _ ▸ hc
    injection h with h
    injection h with h1 h2
    have hr := pre_drop n2
    have key : ∀ p : By, takesN k = p.length → S.drop i = p ++ (S.drop i).drop p.length → Piece k p (writesL k (S.drop i)) → ∃ p q, Piece k p q ∧ S.drop i = p ++ S.drop a ∧ R.drop j = q ++ R.drop c ∧ a = i + p.length ∧ c = j + q.length := by
      intro p hp he hq
      refine ⟨p, _, hq, ?_, ?_, by simp only at h1; omega, by simp only at h2; omega⟩
      · rw [← h1, hp]
        rw [List.drop_drop] at he
        exact he
      · rw [← h2]
        rw [List.drop_drop] at hr
        exact hr
    rcases k with _ | _ | _ | _ | _ | _ | k
    · rcases hS : S.drop i with _ | ⟨x, t⟩
      · rw [hS] at n1
        cases n1
      · rw [hS] at key
        have := key [x] rfl rfl (Piece.copy x)
        simpa using this
    · simp only [needsB, Bool.or_eq_true] at n1
      rcases n1 with n1 | n1
      · exact key [46] rfl (pre_drop n1) Piece.lostS
      · exact key [45] rfl (pre_drop n1) Piece.lostL
    · exact key [45] rfl (pre_drop n1) Piece.short
    · exact key [46, 46] rfl (pre_drop n1) Piece.long
    · exact key [32] rfl (pre_drop n1) Piece.gap
    · exact key [] rfl rfl Piece.made
    · omega
  · rw [if_neg hc] at h
    cases h
theorem of_piece {S R p q x y : By} {i j k : Nat} (h : Piece k p q) (h1 : S.drop i = p ++ x) (h2 : R.drop j = q ++ y) : aftI S R (i, j) k = some (i + p.length, j + q.length) := by
  unfold aftI
  simp only [h1, h2]
  cases h with
  | copy c => rw [if_pos (by simp [needsB, writesL, Lib.hasPrefix])]; rfl
  | lostS => rw [if_pos (by simp [needsB, writesL, Lib.hasPrefix])]; rfl
  | lostL => rw [if_pos (by simp [needsB, writesL, Lib.hasPrefix])]; rfl
  | short => rw [if_pos (by simp [needsB, writesL, Lib.hasPrefix])]; rfl
  | long => rw [if_pos (by simp [needsB, writesL, Lib.hasPrefix])]; rfl
  | gap => rw [if_pos (by simp [needsB, writesL, Lib.hasPrefix])]; rfl
  | made => rw [if_pos (by simp [needsB, writesL, Lib.hasPrefix])]; rfl
theorem turn_drop {S p : By} {i : Nat} (hp : p.reverse = p) (ha : i + p.length ≤ S.length) (h : S.drop i = p ++ S.drop (i + p.length)) : S.reverse.drop (S.length - (i + p.length)) = p ++ S.reverse.drop (S.length - i) := by
  rw [List.drop_reverse, List.drop_reverse]
  have e1 : S.length - (S.length - (i + p.length)) = i + p.length := by omega
  have e2 : S.length - (S.length - i) = i := by omega
  rw [e1, e2, List.take_add, h, List.take_left', List.reverse_append, hp]
  rfl
theorem aft_turn {S R : By} {i j k a c : Nat} (hk : k < 6) (hi : i ≤ S.length) (hj : j ≤ R.length) (h : aftI S R (i, j) k = some (a, c)) : aftI S.reverse R.reverse (S.length - a, R.length - c) k = some (S.length - i, R.length - j) := by
  have hin := aftI_in hk hi hj h
  obtain ⟨p, q, hp, h1, h2, rfl, rfl⟩ := piece_of hk h
  have ht := hp.turn
  have := of_piece hp (turn_drop ht.1 hin.2.1 h1) (turn_drop ht.2 hin.2.2.2.1 h2)
  rw [this]
  congr 2 <;> omega
theorem few_turn1 {S R : By} : ∀ (f i j : Nat), leftN S R (i, j) ≤ f → i ≤ S.length → j ≤ R.length → fewI S R (i, j) < 120 → fewI S.reverse R.reverse (0, 0) ≤ fewI S R (i, j) + fewI S.reverse R.reverse (S.length - i, R.length - j) := by
  intro f
  induction f using Nat.strongRecOn with
  | _ f IH =>
    intro i j hf hi hj h
    by_cases hp : (i, j) = (S.length, R.length)
    · injection hp with e1 e2
      subst e1
      subst e2
      rw [Nat.sub_self, Nat.sub_self]
      omega
    · obtain ⟨k, ⟨a, c⟩, hk, hq, he⟩ := few_best (p := (i, j)) hi hj hp h
      have hin := aftI_in hk hi hj hq
      rcases f with _ | f
      · unfold leftN at hf
        simp only at hf
        omega
      · unfold leftN at hf
        simp only at hf
        have ih := IH f (Nat.lt_succ_self f) a c (by unfold leftN; simp only; omega) hin.2.1 hin.2.2.2.1 (by omega)
        have ht := aft_turn hk hi hj hq
        have hs := few_step (S := S.reverse) (R := R.reverse) (p := (S.length - a, R.length - c)) (by simp) (by simp) (by
          intro e
          injection e with e1 e2
          simp only [List.length_reverse] at e1 e2
          omega) hk ht
        omega
theorem few_turn2 (S R : By) : fewI S.reverse R.reverse (0, 0) ≤ fewI S R (0, 0) := by
  by_cases h : fewI S R (0, 0) < 120
  · have h1 := few_turn1 (leftN S R (0, 0)) 0 0 (Nat.le_refl _) (Nat.zero_le _) (Nat.zero_le _) h
    have h2 := fewI_end S.reverse R.reverse
    rw [List.length_reverse, List.length_reverse] at h2
    rw [Nat.sub_zero, Nat.sub_zero, h2] at h1
    exact h1
  · have := fewI_le (S := S.reverse) (R := R.reverse) (p := (0, 0)) (Nat.zero_le _) (Nat.zero_le _)
    omega
theorem few_turn (S R : By) : fewI S.reverse R.reverse (0, 0) = fewI S R (0, 0) := by
  have h1 := few_turn2 S R
  have h2 := few_turn2 S.reverse R.reverse
  rw [List.reverse_reverse, List.reverse_reverse] at h2
  omega
theorem cut_one {s : ByteArray} {k : Nat} {c : UInt8} (hc : s.data.toList[k]? = some c) : ∃ X : ByteArray, X.data.toList = [c] ∧ X.size = 1 ∧ ∀ w, (Instr.slice 9 (.string s) (some (iv k)) (some (.int .i64 ((k : Int) + 1))) none).run Tryz.prog w = .ok (.string X) w := by
  have hk := (List.getElem?_eq_some_iff.1 hc).1
  rw [← Lib.size_eq] at hk
  have hl : (s.extract k (k + 1)).data.toList = [c] := by
    rw [← ByteArray.toList_eq, Lib.extract_toList]
    have e := List.drop_eq_getElem_cons (List.getElem?_eq_some_iff.1 hc).1
    rw [(List.getElem?_eq_some_iff.1 hc).2] at e
    rw [e]
    simp
  refine ⟨s.extract k (k + 1), hl, by rw [Lib.size_eq, hl]; rfl, fun w => ?_⟩
  rw [run_slice_string w 9 s _ _ _ _ Tryz.underlying9 (by omega) (by omega) (by omega)]
  rfl
set_option maxRecDepth 100000 in
set_option maxHeartbeats 1500000 in
theorem turned_any (s : ByteArray) (w : World) (hs : s.size ≤ 1000) : Calls Tryz.prog 49 #[.string s] w fun e w' => ∃ t : ByteArray, e = .returned (.string t) ∧ t.data.toList = s.data.toList.reverse ∧ Below w.heap.size w w' := by
  go_enter Tryz.func49, Tryz.ntmps49
  go_wp2_with fail
  go_loopw [3, 4] (fun o i wr => ∃ (t : ByteArray) (k : Nat), o = .string t ∧ i = iv k ∧ k ≤ s.size ∧ t.size = k ∧ t.data.toList = (s.data.toList.take k).reverse ∧ Below w.heap.size w wr) (fun _ i _ => s.size - (intOf i).toNat)
  case atStart => exact ⟨⟨#[]⟩, 0, rfl, rfl, by omega, rfl, rfl, Below.refl _ _⟩
  case round =>
    obtain ⟨t, k, rfl, rfl, hk, ht, htl, hB⟩ := hrel
    by_cases hlt : k < s.size
    · have hlt' : (k : Int) < (s.size : Int) := by omega
      obtain ⟨c, hc⟩ : ∃ c, s.data.toList[k]? = some c := ⟨_, List.getElem?_eq_getElem (by rw [← Lib.size_eq]; exact hlt)⟩
      obtain ⟨X, hX, hX1, hcut⟩ := cut_one hc
      have hcat : ¬ 9223372036854775807 < X.size + t.size := by omega
      have hN : (X ++ t).data.toList = (s.data.toList.take (k + 1)).reverse := by
        rw [List.take_add_one, hc]
        simp [hX, htl]
      have hNs : (X ++ t).size = k + 1 := by rw [ByteArray.size_append]; omega
      obtain ⟨Y, hY⟩ : ∃ Y, X ++ t = Y := ⟨_, rfl⟩
      rw [hY] at hN hNs
      clear hX htl hc
      go_wp2_with fail
      go_roundw
      case rel => exact ⟨Y, k + 1, rfl, by go_num, by omega, hNs, hN, hB⟩
      case measure => simp [intOf]; omega
    · have hlt' : ¬ (k : Int) < (s.size : Int) := by omega
      have htl : t.data.toList = s.data.toList.reverse := by
        rw [htl, List.take_of_length_le (by rw [← Lib.size_eq]; omega)]
      go_wp2_with fail
      go_ret
      exact ⟨t, rfl, htl, hB⟩
theorem turn_fine {a b x y : ByteArray} (hx : x.data.toList = a.data.toList.reverse) (hy : y.data.toList = b.data.toList.reverse) (h : signsE [a, b] = 0) : searchE x y = searchE a b ∧ errorsN x y = errorsN a b ∧ (searchE a b = 0 ∨ searchE a b = 11) := by
  have zx : x.size = a.size := by rw [Lib.size_eq, hx, List.length_reverse, ← Lib.size_eq]
  have zy : y.size = b.size := by rw [Lib.size_eq, hy, List.length_reverse, ← Lib.size_eq]
  have h2 : signsE [x, y] = 0 := by
    rw [signs_two] at h ⊢
    split at h
    · cases h
    · split at h
      · rename_i h1 h3
        rw [if_neg (by omega), if_pos]
        rw [hx, hy]
        simp only [List.all_append, Bool.and_eq_true] at h3
        simp only [List.all_append, List.all_reverse, h3.1, h3.2]
        rfl
      · cases h
  have hf : fewI x.data.toList y.data.toList (0, 0) = fewI a.data.toList b.data.toList (0, 0) := by rw [hx, hy, few_turn]
  have he : searchE x y = searchE a b := by
    unfold searchE
    rw [h, h2, hf]
  refine ⟨he, by unfold errorsN; rw [he, hf], ?_⟩
  unfold searchE
  rw [h, if_neg (by simp)]
  split
  · exact .inr rfl
  · exact .inl rfl
set_option maxRecDepth 100000 in
set_option maxHeartbeats 1500000 in
theorem lturned_any (a b : ByteArray) (w : World) : Calls Tryz.prog 14 #[.string a, .string b] w fun e w' => e = .returned (.bool true) ∧ Below w.heap.size w w' := by
  obtain ⟨E, hE⟩ : ∃ E, signsE [a, b] = E := ⟨_, rfl⟩
  have HE := Lib.hid hE
  by_cases hE0 : E = 0
  · subst hE0
    obtain ⟨-, -, q⟩ := turn_fine (x := ⟨a.data.toList.reverse.toArray⟩) (y := ⟨b.data.toList.reverse.toArray⟩) (by simp) (by simp) hE
    obtain ⟨h40, h40'⟩ := signs_40 hE
    obtain ⟨n, hn⟩ : ∃ n, errorsN a b = n := ⟨_, rfl⟩
    have N1 := Lib.hid hn
    clear hE hn
    rcases q with q | q
    · have H1 := Lib.hid q
      clear q
      go_enter Tryz.func14, Tryz.ntmps14
      go_wp2_with fail
      refine (signed_any a b _).mono ?_
      rintro e w1 ⟨rfl, hb1⟩
      rw [HE.out]
      go_wp2_with fail
      refine (Errors_any a b _).mono ?_
      rintro e w2 ⟨rfl, hb2⟩
      rw [H1.out, N1.out]
      go_wp2_with fail
      refine (turned_any a _ (by omega)).mono ?_
      rintro e w3 ⟨x, rfl, hx, hb3⟩
      have HX := Lib.hid hx
      clear hx
      go_wp2_with fail
      refine (turned_any b _ (by omega)).mono ?_
      rintro e w4 ⟨y, rfl, hy, hb4⟩
      have HY := Lib.hid hy
      clear hy
      go_wp2_with fail
      refine (Errors_any x y _).mono ?_
      rintro e w5 ⟨rfl, hb5⟩
      obtain ⟨g1, g2, -⟩ := turn_fine HX.out HY.out HE.out
      rw [g1, g2, H1.out, N1.out]
      have hB := up_later (up_later (up_later (up_later hb1 hb2) hb3) hb4) hb5
      clear hb1 hb2 hb3 hb4 hb5 g1 g2
      go_wp2_with fail
      refine (awake_any _).mono ?_
      rintro e w6 ⟨rfl, hb6⟩
      go_wp2_with fail
      go_ret
      exact ⟨rfl, up_later hB hb6⟩
    · have H1 := Lib.hid q
      clear q
      go_enter Tryz.func14, Tryz.ntmps14
      go_wp2_with fail
      refine (signed_any a b _).mono ?_
      rintro e w1 ⟨rfl, hb1⟩
      rw [HE.out]
      go_wp2_with fail
      refine (Errors_any a b _).mono ?_
      rintro e w2 ⟨rfl, hb2⟩
      rw [H1.out, N1.out]
      go_wp2_with fail
      refine (turned_any a _ (by omega)).mono ?_
      rintro e w3 ⟨x, rfl, hx, hb3⟩
      have HX := Lib.hid hx
      clear hx
      go_wp2_with fail
      refine (turned_any b _ (by omega)).mono ?_
      rintro e w4 ⟨y, rfl, hy, hb4⟩
      have HY := Lib.hid hy
      clear hy
      go_wp2_with fail
      refine (Errors_any x y _).mono ?_
      rintro e w5 ⟨rfl, hb5⟩
      obtain ⟨g1, g2, -⟩ := turn_fine HX.out HY.out HE.out
      rw [g1, g2, H1.out, N1.out]
      have hB := up_later (up_later (up_later (up_later hb1 hb2) hb3) hb4) hb5
      clear hb1 hb2 hb3 hb4 hb5 g1 g2
      go_wp2_with fail
      refine (awake_any _).mono ?_
      rintro e w6 ⟨rfl, hb6⟩
      go_wp2_with fail
      go_ret
      exact ⟨rfl, up_later hB hb6⟩
  · have e0 : (E == 0) = false := beq_eq_false_iff_ne.2 hE0
    clear hE
    go_enter Tryz.func14, Tryz.ntmps14
    go_wp2_with fail
    refine (signed_any a b _).mono ?_
    rintro e w1 ⟨rfl, hb1⟩
    rw [HE.out]
    go_wp2_with fail
    refine (awake_any _).mono ?_
    rintro e w5 ⟨rfl, hb5⟩
    go_wp2_with fail
    go_ret
    exact ⟨rfl, up_later hb1 hb5⟩
end Go.Proofs.YtonekgefegfapaaGreat
