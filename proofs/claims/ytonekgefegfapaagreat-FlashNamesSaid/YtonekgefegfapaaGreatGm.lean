/-
  FlashEqual (P2.7, P2.11). WALKS of SignsFault, signed and FlashEqual; the fewest errors are 0 if and only if both strings are equal, and the lengths differ by at most the fewest errors. No condition.
-/
import Derived.Test.YtonekgefegfapaaGreatGl
namespace Go.Proofs.YtonekgefegfapaaGreat
open Go.RowKit

theorem fold_le_mem {α : Type} {g : α → Nat} : ∀ (l : List α) (e : Nat) (x : α), x ∈ l → l.foldl (fun e x => min e (g x)) e ≤ g x
  | y :: l, e, x, h => by
    rcases List.mem_cons.1 h with rfl | h
    · exact Nat.le_trans (foldl_le l _) (Nat.min_le_right _ _)
    · exact fold_le_mem l _ x h
theorem few_step {S R : By} {p q : Nat × Nat} {k : Nat} (h1 : p.1 ≤ S.length) (h2 : p.2 ≤ R.length) (hp : p ≠ (S.length, R.length)) (hk : k < 6) (hq : aftI S R p k = some q) : fewI S R p ≤ errsN k + fewI S R q := by
  rw [fewI_eq h1 h2 hp]
  refine fold_le_mem (g := fun x : Nat × Nat × Nat => errsN x.1 + fewI S R x.2) _ 120 (k, q) ?_
  unfold nextI
  exact List.mem_filterMap.2 ⟨k, List.mem_range.2 hk, by rw [hq]; rfl⟩
theorem copy_one {S R : By} {i j : Nat} {b : UInt8} (hi : S[i]? = some b) (hj : R[j]? = some b) : aftI S R (i, j) 0 = some (i + 1, j + 1) := by
  have e1 := List.drop_eq_getElem_cons (List.getElem?_eq_some_iff.1 hi).1
  have e2 := List.drop_eq_getElem_cons (List.getElem?_eq_some_iff.1 hj).1
  rw [(List.getElem?_eq_some_iff.1 hi).2] at e1
  rw [(List.getElem?_eq_some_iff.1 hj).2] at e2
  unfold aftI needsB writesL takesN
  simp only [e1, e2, List.take_succ_cons, List.take_zero, List.length_cons, List.length_nil]
  simp [Lib.hasPrefix]
theorem few_same (S : By) : ∀ (d i : Nat), i + d = S.length → fewI S S (i, i) = 0
  | 0, i, h => by
    obtain rfl : i = S.length := by omega
    exact fewI_end S S
  | d + 1, i, h => by
    obtain ⟨b, hb⟩ : ∃ b, S[i]? = some b := ⟨_, List.getElem?_eq_getElem (by omega)⟩
    have h1 := few_step (S := S) (R := S) (p := (i, i)) (by simp only; omega) (by simp only; omega) (by intro e; injection e with e _; omega) (by decide : 0 < 6) (copy_one hb hb)
    rw [few_same S d (i + 1) (by omega)] at h1
    simpa [errsN] using h1
theorem few_best {S R : By} {p : Nat × Nat} (h1 : p.1 ≤ S.length) (h2 : p.2 ≤ R.length) (hp : p ≠ (S.length, R.length)) (h : fewI S R p < 120) : ∃ k q, k < 6 ∧ aftI S R p k = some q ∧ fewI S R p = errsN k + fewI S R q := by
  obtain ⟨x, hx, hb⟩ := best_some h1 h2 hp h
  obtain ⟨hk, hq⟩ := nextI_mem hx
  refine ⟨x.1, x.2, hk, hq, ?_⟩
  unfold bestB at hb
  exact (by simpa using hb : errsN x.1 + fewI S R x.2 = fewI S R p).symm
theorem few_zero {S R : By} : ∀ (f i j : Nat), leftN S R (i, j) ≤ f → i ≤ S.length → j ≤ R.length → fewI S R (i, j) = 0 → S.drop i = R.drop j
  | 0, i, j, hf, hi, hj, _ => by
    unfold leftN at hf
    simp only at hf
    rw [List.drop_eq_nil_of_le (by omega), List.drop_eq_nil_of_le (by omega)]
  | f + 1, i, j, hf, hi, hj, h => by
    by_cases hp : (i, j) = (S.length, R.length)
    · injection hp with e1 e2
      rw [List.drop_eq_nil_of_le (by omega), List.drop_eq_nil_of_le (by omega)]
    · obtain ⟨k, ⟨a, c⟩, hk, hq, he⟩ := few_best (p := (i, j)) hi hj hp (by omega)
      have hin := aftI_in hk hi hj hq
      have hk0 : k = 0 := by
        rcases k with _ | k
        · rfl
        · exfalso
          have : errsN (k + 1) = 1 := rfl
          omega
      subst hk0
      have h0 : fewI S R (a, c) = 0 := by omega
      unfold leftN at hf
      simp only at hf
      have ih := few_zero f a c (by unfold leftN; simp only; omega) hin.2.1 hin.2.2.2.1 h0
      have hq2 := hq
      unfold aftI at hq2
      by_cases hc : (needsB 0 (S.drop i) && Lib.hasPrefix (R.drop j) (writesL 0 (S.drop i))) = true
      · rw [if_pos hc] at hq2
        obtain ⟨n1, n2⟩ := Bool.and_eq_true _ _ ▸ hc
        have hlt : i < S.length := by
          have : 0 < (S.drop i).length := by simpa [needsB] using n1
          rw [List.length_drop] at this
          omega
        have e1 := List.drop_eq_getElem_cons hlt
        unfold writesL at n2 hq2
        rw [e1] at n2 hq2
        simp only [List.take_succ_cons, List.take_zero, List.length_cons, List.length_nil, Option.some.injEq, Prod.mk.injEq, takesN] at n2 hq2
        obtain ⟨rfl, rfl⟩ := hq2
        unfold Lib.hasPrefix at n2
        rcases hR : R.drop j with _ | ⟨y, r⟩
        · rw [hR] at n2
          simp at n2
        · rw [hR] at n2
          have hxy : S[i] = y := by simpa using n2
          have hr : r = R.drop (j + 1) := by
            rw [← List.drop_drop, hR]
            rfl
          rw [e1, hxy, hr, ← ih]
      · rw [if_neg hc] at hq2
        cases hq2
theorem few_len {S R : By} : ∀ (f i j : Nat), leftN S R (i, j) ≤ f → i ≤ S.length → j ≤ R.length → fewI S R (i, j) < 120 → (S.length - i) ≤ (R.length - j) + fewI S R (i, j) ∧ (R.length - j) ≤ (S.length - i) + fewI S R (i, j)
  | 0, i, j, hf, hi, hj, _ => by
    unfold leftN at hf
    simp only at hf
    omega
  | f + 1, i, j, hf, hi, hj, h => by
    by_cases hp : (i, j) = (S.length, R.length)
    · injection hp with e1 e2
      omega
    · obtain ⟨k, ⟨a, c⟩, hk, hq, he⟩ := few_best (p := (i, j)) hi hj hp h
      have hin := aftI_in hk hi hj hq
      unfold leftN at hf
      simp only at hf
      have ih := few_len f a c (by unfold leftN; simp only; omega) hin.2.1 hin.2.2.2.1 (by omega)
      unfold aftI at hq
      by_cases hc : (needsB k (S.drop i) && Lib.hasPrefix (R.drop j) (writesL k (S.drop i))) = true
      · rw [if_pos hc] at hq
        simp only [Option.some.injEq, Prod.mk.injEq] at hq
        obtain ⟨rfl, rfl⟩ := hq
        have hw : takesN k ≤ (writesL k (S.drop i)).length + errsN k ∧ (writesL k (S.drop i)).length ≤ takesN k + errsN k := by
          rcases k with _ | _ | _ | _ | _ | _ | k
          · obtain ⟨n1, -⟩ := Bool.and_eq_true _ _ ▸ hc
            have : 0 < (S.drop i).length := by simpa [needsB] using n1
            simp [takesN, writesL, errsN]
            simp at this
            omega
          all_goals simp [takesN, writesL, errsN]
        omega
      · rw [if_neg hc] at hq
        cases hq
theorem signs_two (a b : ByteArray) : signsE [a, b] = if 40 < a.size ∨ 40 < b.size then 3 else if (a.data.toList ++ b.data.toList).all signB = true then 0 else 4 := by
  unfold signsE
  simp only [List.all_cons, List.all_nil, Bool.and_true, List.all_append]
  by_cases h1 : 40 < a.size ∨ 40 < b.size
  · rw [if_pos h1, if_pos (by simp; omega)]
  · rw [if_neg h1, if_neg (by simp; omega)]
    cases (a.data.toList.all signB && b.data.toList.all signB) <;> simp
theorem signB_iff (c : UInt8) : signB c = true ↔ c = 46 ∨ c = 45 ∨ c = 32 := by
  unfold signB hasB
  simp only [Lib.indexByte]
  by_cases h1 : c = 46
  · subst h1
    simp
  by_cases h2 : c = 45
  · subst h2
    simp
  by_cases h3 : c = 32
  · subst h3
    simp
  have e1 : ((46 : UInt8) == c) = false := by simpa using fun h => h1 (Eq.symm h)
  have e2 : ((45 : UInt8) == c) = false := by simpa using fun h => h2 (Eq.symm h)
  have e3 : ((32 : UInt8) == c) = false := by simpa using fun h => h3 (Eq.symm h)
  simp [e1, e2, e3, h1, h2, h3]
set_option maxRecDepth 100000 in
set_option maxHeartbeats 1000000 in
theorem SignsFault_any (a b : ByteArray) (w : World) : Calls Tryz.prog 60 #[.string a, .string b] w fun e w' => e = .returned (iv (signsE [a, b])) ∧ Below w.heap.size w w' := by
  by_cases h1 : 40 < a.size
  · have Hr := Lib.hid (show signsE [a, b] = 3 by rw [signs_two, if_pos (.inl h1)])
    have h1' : (40 : Int) < (a.size : Int) := by omega
    go_enter Tryz.func60, Tryz.ntmps60
    go_wp2_with fail
    go_ret
    exact ⟨by rw [Hr.out]; rfl, up0⟩
  by_cases h2 : 40 < b.size
  · have Hr := Lib.hid (show signsE [a, b] = 3 by rw [signs_two, if_pos (.inr h2)])
    have h1' : ¬ (40 : Int) < (a.size : Int) := by omega
    have h2' : (40 : Int) < (b.size : Int) := by omega
    go_enter Tryz.func60, Tryz.ntmps60
    go_wp2_with fail
    go_ret
    exact ⟨by rw [Hr.out]; rfl, up0⟩
  have h1' : ¬ (40 : Int) < (a.size : Int) := by omega
  have h2' : ¬ (40 : Int) < (b.size : Int) := by omega
  have hcat : ¬ 9223372036854775807 < a.size + b.size := by omega
  obtain ⟨S, hS⟩ : ∃ S, a ++ b = S := ⟨_, rfl⟩
  have hSs : S.size = a.size + b.size := by rw [← hS, ByteArray.size_append]
  have hSl : S.data.toList = a.data.toList ++ b.data.toList := by rw [← hS]; simp
  have HRe := (show signsE [a, b] = if S.data.toList.all signB = true then 0 else 4 by rw [signs_two, if_neg (by omega), hSl])
  have HR := Lib.hid HRe
  clear HRe
  go_enter Tryz.func60, Tryz.ntmps60
  go_wp2_with fail
  go_loopw [6] (fun i wr => ∃ k : Nat, k ≤ S.size ∧ i = iv k ∧ Hid (∀ j c, j < k → S.data.toList[j]? = some c → signB c = true) ∧ Below w.heap.size w wr) (fun i _ => S.size - (intOf i).toNat)
  case atStart => exact ⟨0, by omega, rfl, Lib.hid (fun j _ h => absurd h (Nat.not_lt_zero _)), Below.refl _ _⟩
  case round =>
    obtain ⟨k, hk, rfl, HF, hB⟩ := hrel
    by_cases hlt : k < S.size
    · have hlt' : (k : Int) < (S.size : Int) := by omega
      obtain ⟨c, hc⟩ : ∃ c, S.data.toList[k]? = some c := ⟨_, List.getElem?_eq_getElem (by rw [← Lib.size_eq]; exact hlt)⟩
      have hix : ∀ w, (Instr.index 9 (.string S) (iv k)).run Tryz.prog w = .ok (.int .u8 c.toNat) w := fun w => by
        rw [run_index_string w 9 S _ _ Tryz.underlying9, dif_pos (by omega)]
        have h := (List.getElem?_eq_some_iff.1 hc).2
        have e : S[(k : Int).toNat]'(by omega) = c := by rw [← h]; rfl
        rw [e]
      by_cases hs : signB c = true
      · have hgo : Hid (∀ j c, j < k + 1 → S.data.toList[j]? = some c → signB c = true) := Lib.hid (fun j c' h h' => by
          rcases Nat.lt_or_ge j k with h1 | h1
          · exact HF.out j c' h1 h'
          · obtain rfl : j = k := by omega
            rw [hc] at h'
            injection h' with h'
            rw [← h']
            exact hs)
        clear HF
        rcases (signB_iff c).1 hs with rfl | rfl | rfl
        all_goals
          clear hs hc
          have hx := hix
          simp only [UInt8.reduceToNat, Int.cast_ofNat_Int] at hx
          clear hix
          go_wp2_with fail
          go_roundw
          case rel => exact ⟨k + 1, by omega, by go_num, hgo, hB⟩
          case measure => simp [intOf]; omega
      · have HX := Lib.hid (show signsE [a, b] = 4 by
          rw [HR.out, if_neg]
          intro h
          exact hs (List.all_eq_true.1 h c (List.mem_of_getElem? hc)))
        have hn : ∀ n : Nat, n < 256 → n = 46 ∨ n = 45 ∨ n = 32 → ¬ (c.toNat : Int) = n := fun n hn h e => hs ((signB_iff c).2 (by
          have e' : c.toNat = n := by omega
          rcases h with rfl | rfl | rfl
          · exact .inl (UInt8.toNat_inj.1 e')
          · exact .inr (.inl (UInt8.toNat_inj.1 e'))
          · exact .inr (.inr (UInt8.toNat_inj.1 e'))))
        have n1 : ((c.toNat : Int) != 46) = true := bne_iff_ne.2 (hn 46 (by decide) (by decide))
        have n2 : ((c.toNat : Int) != 45) = true := bne_iff_ne.2 (hn 45 (by decide) (by decide))
        have n3 : ((c.toNat : Int) != 32) = true := bne_iff_ne.2 (hn 32 (by decide) (by decide))
        clear hn hs HF HR hc
        go_wp2_with fail
        go_ret
        exact ⟨by rw [HX.out]; rfl, hB⟩
    · have hk : k = S.size := by omega
      have hlt' : ¬ (k : Int) < (S.size : Int) := by omega
      have HX := Lib.hid (show signsE [a, b] = 0 by
        rw [HR.out, if_pos]
        exact List.all_eq_true.2 (fun c hc => by
          obtain ⟨j, hj⟩ := List.mem_iff_getElem?.1 hc
          exact HF.out j c (by
            have := (List.getElem?_eq_some_iff.1 hj).1
            rw [← Lib.size_eq] at this
            omega) hj))
      clear HF HR
      go_wp2_with fail
      go_ret
      exact ⟨by rw [HX.out]; rfl, hB⟩
set_option maxRecDepth 100000 in
theorem signed_any (a b : ByteArray) (w : World) : Calls Tryz.prog 29 #[.string a, .string b] w fun e w' => e = .returned (iv (signsE [a, b])) ∧ Below w.heap.size w w' := by
  go_enter Tryz.func29, Tryz.ntmps29
  go_wp2_with fail
  refine (SignsFault_any a b _).mono ?_
  rintro e w1 ⟨rfl, hb⟩
  go_wp2_with fail
  go_ret
  exact ⟨rfl, hb⟩
theorem toList_eq_iff (a b : ByteArray) : (a.toList == b.toList) = (a.data.toList == b.data.toList) := by
  rw [ByteArray.toList_eq, ByteArray.toList_eq]
/-- What the law weighs: equal and 0 errors go together, and the lengths differ by at most the errors. -/
theorem equal_fine {a b : ByteArray} (h : signsE [a, b] = 0) (h2 : searchE a b = 0) : ((errorsN a b = 0) ↔ a.toList = b.toList) ∧ a.size ≤ b.size + errorsN a b ∧ b.size ≤ a.size + errorsN a b := by
  have hf : fewI a.data.toList b.data.toList (0, 0) ≠ 120 := by
    intro e
    unfold searchE at h2
    rw [h, if_neg (by simp), if_pos e] at h2
    cases h2
  have he : errorsN a b = fewI a.data.toList b.data.toList (0, 0) := by unfold errorsN; rw [if_pos h2]
  have hl : fewI a.data.toList b.data.toList (0, 0) < 120 := by
    have := fewI_le (S := a.data.toList) (R := b.data.toList) (p := (0, 0)) (Nat.zero_le _) (Nat.zero_le _)
    omega
  have hlen := few_len (S := a.data.toList) (R := b.data.toList) (leftN a.data.toList b.data.toList (0, 0)) 0 0 (Nat.le_refl _) (Nat.zero_le _) (Nat.zero_le _) hl
  rw [← Lib.size_eq a, ← Lib.size_eq b] at hlen
  refine ⟨⟨fun e => ?_, fun e => ?_⟩, by omega, by omega⟩
  · have := few_zero (S := a.data.toList) (R := b.data.toList) (leftN a.data.toList b.data.toList (0, 0)) 0 0 (Nat.le_refl _) (Nat.zero_le _) (Nat.zero_le _) (by omega)
    rw [ByteArray.toList_eq, ByteArray.toList_eq]
    simpa using this
  · rw [ByteArray.toList_eq, ByteArray.toList_eq] at e
    rw [he, ← e]
    exact few_same _ a.data.toList.length 0 (Nat.zero_add _)
theorem equal_not {a b : ByteArray} (h2 : searchE a b = 11) : a.toList ≠ b.toList := by
  intro e
  rw [ByteArray.toList_eq, ByteArray.toList_eq] at e
  unfold searchE at h2
  by_cases h : signsE [a, b] = 0
  · rw [h, if_neg (by simp)] at h2
    rw [← e, few_same _ _ 0 (Nat.zero_add _), if_neg (by decide)] at h2
    cases h2
  · rw [if_pos h] at h2
    unfold signsE at h2
    split at h2
    · cases h2
    · split at h2 <;> cases h2
theorem errors_self {a b : ByteArray} (h : signsE [a, b] = 0) : searchE a a = 0 ∧ errorsN a a = 0 := by
  have h1 : signsE [a, a] = 0 := by
    rw [signs_two] at h ⊢
    split at h
    · cases h
    · split at h
      · rename_i h1 h2
        rw [if_neg (by omega), if_pos]
        rw [List.all_append, Bool.and_eq_true] at h2 ⊢
        exact ⟨h2.1, h2.1⟩
      · cases h
  have hs : searchE a a = 0 := by
    unfold searchE
    rw [h1, if_neg (by simp), few_same _ _ 0 (Nat.zero_add _), if_neg (by decide)]
  refine ⟨hs, ?_⟩
  unfold errorsN
  rw [if_pos hs, few_same _ _ 0 (Nat.zero_add _)]
set_option maxRecDepth 100000 in
set_option maxHeartbeats 1500000 in
theorem equal_any (a b : ByteArray) (w : World) : Calls Tryz.prog 10 #[.string a, .string b] w fun e w' => e = .returned (.bool true) ∧ Below w.heap.size w w' := by
  by_cases h : signsE [a, b] = 0
  · obtain ⟨hs, he⟩ := errors_self h
    have H1 := Lib.hid h
    have H2 := Lib.hid hs
    have H3 := Lib.hid he
    clear hs he
    by_cases h2 : searchE a b = 0
    · obtain ⟨g1, g2, g3⟩ := equal_fine h h2
      have H4 := Lib.hid h2
      clear h2 h
      obtain ⟨n, hn⟩ : ∃ n, errorsN a b = n := ⟨_, rfl⟩
      have H5 := Lib.hid hn
      rw [hn] at g1 g2 g3
      clear hn
      have g40 : a.size ≤ 40 ∧ b.size ≤ 40 := by
        have h := H1.out
        rw [signs_two] at h
        split at h
        · cases h
        · omega
      have g2' : ¬ (n : Int) < wrap64 ((a.size : Int) - (b.size : Int)) := by unfold wrap64; omega
      have g3' : ¬ (n : Int) < wrap64 ((b.size : Int) - (a.size : Int)) := by unfold wrap64; omega
      have g1' : (((n : Int) == 0) == (a.toList == b.toList)) = true := by
        rw [beq_iff_eq, Bool.eq_iff_iff, beq_iff_eq, beq_iff_eq, ← g1]
        omega
      clear g40
      clear g1 g2 g3
      go_enter Tryz.func10, Tryz.ntmps10
      go_wp2_with fail
      refine (signed_any a b _).mono ?_
      rintro e w1 ⟨rfl, hb1⟩
      rw [H1.out]
      go_wp2_with fail
      refine (Errors_any a b _).mono ?_
      rintro e w2 ⟨rfl, hb2⟩
      rw [H4.out, H5.out]
      go_wp2_with fail
      refine (Errors_any a a _).mono ?_
      rintro e w3 ⟨rfl, hb3⟩
      rw [H2.out, H3.out]
      have hB := up_later (up_later hb1 hb2) hb3
      clear hb1 hb2 hb3
      go_wp2_with fail
      refine (awake_any _).mono ?_
      rintro e w4 ⟨rfl, hb4⟩
      go_wp2_with fail
      go_ret
      exact ⟨rfl, up_later hB hb4⟩
    · have h3 : searchE a b = 11 := by
        unfold searchE at h2 ⊢
        rw [h, if_neg (by simp)] at h2 ⊢
        split
        · rfl
        · rename_i hh
          rw [if_neg hh] at h2
          exact absurd rfl h2
      have hne : (a.toList == b.toList) = false := by simpa using equal_not h3
      have H4 := Lib.hid h3
      have H5 := Lib.hid (show errorsN a b = 0 by unfold errorsN; rw [if_neg h2])
      clear h2 h h3
      go_enter Tryz.func10, Tryz.ntmps10
      go_wp2_with fail
      refine (signed_any a b _).mono ?_
      rintro e w1 ⟨rfl, hb1⟩
      rw [H1.out]
      go_wp2_with fail
      refine (Errors_any a b _).mono ?_
      rintro e w2 ⟨rfl, hb2⟩
      rw [H4.out, H5.out]
      go_wp2_with fail
      refine (Errors_any a a _).mono ?_
      rintro e w3 ⟨rfl, hb3⟩
      rw [H2.out, H3.out]
      have hB := up_later (up_later hb1 hb2) hb3
      clear hb1 hb2 hb3
      go_wp2_with fail
      refine (awake_any _).mono ?_
      rintro e w4 ⟨rfl, hb4⟩
      go_wp2_with fail
      go_ret
      exact ⟨rfl, up_later hB hb4⟩
  · obtain ⟨E, hE⟩ : ∃ E, signsE [a, b] = E := ⟨_, rfl⟩
    have H1 := Lib.hid hE
    rw [hE] at h
    clear hE
    go_enter Tryz.func10, Tryz.ntmps10
    go_wp2_with fail
    refine (signed_any a b _).mono ?_
    rintro e w1 ⟨rfl, hb1⟩
    rw [H1.out]
    go_wp2_with fail
    refine (awake_any _).mono ?_
    rintro e w4 ⟨rfl, hb4⟩
    go_wp2_with fail
    go_ret
    exact ⟨rfl, up_later hb1 hb4⟩
end Go.Proofs.YtonekgefegfapaaGreat
