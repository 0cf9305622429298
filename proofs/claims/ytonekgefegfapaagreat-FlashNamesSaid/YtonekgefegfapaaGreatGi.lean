/-
  WALKS of inOrder, slices.Compare and cmp.Or again: what they leave of memory, to the block. Condition: texts of at most 1000 letters.
-/
import Derived.Test.YtonekgefegfapaaGreatGh
namespace Go.Proofs.YtonekgefegfapaaGreat
open Go.RowKit

set_option maxRecDepth 100000 in
set_option maxHeartbeats 1000000 in
theorem Or_eq (v : Value) (l : List Int) (w : World) (hl : RowsAt w v 1 ic l) : Calls Tryz.prog 117 #[v] w fun e w' => e = .returned (iv (orI l)) ∧ w' = w := by
  obtain ⟨hlen, A, cap, hv, hcap, hmax⟩ := hl.form
  subst hv
  clear hcap hmax
  go_enter Tryz.func117, Tryz.ntmps117
  go_wp2_with fail
  go_loopw [8] (fun i wr => ∃ k : Nat, k ≤ l.length ∧ i = iv k ∧ Hid (∀ x ∈ l.take k, x = 0) ∧ wr = w) (fun i _ => l.length - (intOf i).toNat)
  case atStart => exact ⟨0, by omega, rfl, Lib.hid (by simp), rfl⟩
  case round =>
    obtain ⟨k, hk, rfl, HN, rfl⟩ := hrel
    by_cases hlt : k < l.length
    · obtain ⟨x, hx⟩ : ∃ x, l[k]? = some x := ⟨_, List.getElem?_eq_getElem hlt⟩
      obtain ⟨b, off, rfl, hb, hc⟩ := hl.at rfl hx
      have Hx := Lib.hid hx
      have q0 : wr.cell? ⟨b, off + k, none⟩ = some (.int .i64 x) := by simpa using hc 0 _ rfl
      clear hx hc
      by_cases h0 : x = 0
      · subst h0
        go_wp2_with fail
        go_roundw
        case rel => exact ⟨k + 1, by omega, by go_num, Lib.hid (by
          intro y hy
          rw [List.take_add_one, Hx.out] at hy
          rcases List.mem_append.1 hy with h | h
          · exact HN.out y h
          · simpa using h), by first | trivial | rfl⟩
        case measure => simp [intOf]; omega
      · have e1 : (x == 0) = false := by rw [beq_eq_false_iff_ne]; exact h0
        have Hr := Lib.hid (show orI l = x by
          rw [orI_skip HN.out, List.drop_eq_getElem_cons hlt, orI]
          have := (List.getElem?_eq_some_iff.1 Hx.out).2
          rw [this, if_pos h0])
        go_wp2_with fail
        go_ret
        exact ⟨by rw [Hr.out]; rfl, rfl⟩
    · have Hr := Lib.hid (show orI l = 0 by
        rw [orI_skip HN.out, List.drop_eq_nil_of_le (by omega)]
        rfl)
      go_wp2_with fail
      go_ret
      exact ⟨by rw [Hr.out]; rfl, rfl⟩
set_option maxRecDepth 100000 in
set_option maxHeartbeats 2000000 in
theorem slCompare_eq (v u : Value) (a b : List Int) (w : World) (ha : RowsAt w v 1 ic a) (hb : RowsAt w u 1 ic b) : Calls Tryz.prog 119 #[v, u] w fun e w' => e = .returned (iv (lexI a b)) ∧ w' = w := by
  obtain ⟨hla, A, cap, hv, hcap, hmax⟩ := ha.form
  subst hv
  clear hcap hmax
  obtain ⟨hlb, B, capb, hv2, hcap, hmax⟩ := hb.form
  subst hv2
  clear hcap hmax
  go_enter Tryz.func119, Tryz.ntmps119
  go_wp2_with fail
  go_loopw [11] (fun i wr => ∃ k : Nat, k ≤ a.length ∧ k ≤ b.length ∧ i = iv k ∧ Hid (a.take k = b.take k) ∧ wr = w) (fun i _ => a.length - (intOf i).toNat)
  case atStart => exact ⟨0, by omega, by omega, rfl, Lib.hid (by simp), rfl⟩
  case round =>
    obtain ⟨k, hk, hkb, rfl, HN, rfl⟩ := hrel
    by_cases hlt : k < a.length
    · obtain ⟨x, hx⟩ : ∃ x, a[k]? = some x := ⟨_, List.getElem?_eq_getElem hlt⟩
      obtain ⟨g, off, rfl, hgl, hc⟩ := ha.at rfl hx
      have Hx := Lib.hid hx
      have q0 : wr.cell? ⟨g, off + k, none⟩ = some (.int .i64 x) := by simpa using hc 0 _ rfl
      clear hx hc
      by_cases hlt2 : k < b.length
      · obtain ⟨y, hy⟩ : ∃ y, b[k]? = some y := ⟨_, List.getElem?_eq_getElem hlt2⟩
        obtain ⟨g2, off2, rfl, hgl2, hc2⟩ := hb.at rfl hy
        have Hy := Lib.hid hy
        have q1 : wr.cell? ⟨g2, off2 + k, none⟩ = some (.int .i64 y) := by simpa using hc2 0 _ rfl
        clear hy hc2
        have hl1 : ¬ (b.length : Int) ≤ (k : Int) := by omega
        by_cases hc0 : cmpI x y = 0
        · have Hc := Lib.hid hc0
          have HN' := Lib.hid (show a.take (k + 1) = b.take (k + 1) by rw [List.take_add_one, List.take_add_one, HN.out, Hx.out, Hy.out, cmpI_zero.1 hc0])
          clear hc0
          go_wp2_with fail
          refine (Compare_any x y _).mono ?_
          rintro e w1 ⟨rfl, rfl⟩
          rw [Hc.out]
          go_wp2_with fail
          go_roundw
          case rel => exact ⟨k + 1, by omega, by omega, by go_num, HN', by first | trivial | rfl⟩
          case measure => simp [intOf]; omega
        · obtain ⟨C, hC⟩ : ∃ C, cmpI x y = C := ⟨_, rfl⟩
          rw [hC] at hc0
          have HC := Lib.hid hC
          have e1 : (C == 0) = false := by rw [beq_eq_false_iff_ne]; exact hc0
          have Hr := Lib.hid (show lexI a b = C by
            rw [lexI_skip hk hkb HN.out, List.drop_eq_getElem_cons hlt, List.drop_eq_getElem_cons hlt2, lexI, (List.getElem?_eq_some_iff.1 Hx.out).2, (List.getElem?_eq_some_iff.1 Hy.out).2, hC, if_pos hc0])
          clear hC
          go_wp2_with fail
          refine (Compare_any x y _).mono ?_
          rintro e w1 ⟨rfl, rfl⟩
          rw [HC.out]
          go_wp2_with fail
          go_ret
          exact ⟨by rw [Hr.out]; rfl, rfl⟩
      · have hl1 : (b.length : Int) ≤ (k : Int) := by omega
        have Hr := Lib.hid (show lexI a b = 1 by
          rw [lexI_skip hk hkb HN.out, List.drop_eq_getElem_cons hlt, List.drop_eq_nil_of_le (show b.length ≤ k by omega), lexI])
        go_wp2_with fail
        go_ret
        exact ⟨by rw [Hr.out]; rfl, rfl⟩
    · by_cases hl2 : (a.length : Int) < (b.length : Int)
      · have Hr := Lib.hid (show lexI a b = -1 by
          rw [lexI_skip hk hkb HN.out, List.drop_eq_nil_of_le (show a.length ≤ k by omega), List.drop_eq_getElem_cons (show k < b.length by omega), lexI])
        go_wp2_with fail
        go_ret
        exact ⟨by rw [Hr.out]; rfl, rfl⟩
      · have Hr := Lib.hid (show lexI a b = 0 by
          rw [lexI_skip hk hkb HN.out, List.drop_eq_nil_of_le (show a.length ≤ k by omega), List.drop_eq_nil_of_le (show b.length ≤ k by omega), lexI])
        go_wp2_with fail
        go_ret
        exact ⟨by rw [Hr.out]; rfl, rfl⟩
set_option maxRecDepth 100000 in
set_option maxHeartbeats 1000000 in
theorem inOrder_eq (v u : Value) (a b : List Int) (w : World) (ha : RowsAt w v 1 ic a) (hb : RowsAt w u 1 ic b) : Calls Tryz.prog 92 #[v, u] w fun e w' => e = .returned (iv (ordI a b)) ∧ ∃ o, w' = w.alloc o := by
  obtain ⟨hla, A, cap, hv, hcap, hmax⟩ := ha.form
  subst hv
  clear hcap hmax
  obtain ⟨hlb, B, capb, hv2, hcap, hmax⟩ := hb.form
  subst hv2
  clear hcap hmax
  have HA := Lib.hid ha
  have HB := Lib.hid hb
  clear ha hb
  obtain ⟨C, hC⟩ : ∃ C, cmpI (a.length : Int) (b.length : Int) = C := ⟨_, rfl⟩
  obtain ⟨D, hD⟩ : ∃ D, lexI a b = D := ⟨_, rfl⟩
  have HC := Lib.hid hC
  have HD := Lib.hid hD
  have Hr := Lib.hid (show ordI a b = orI [C, D] by unfold ordI; rw [hC, hD])
  clear hC hD
  go_enter Tryz.func92, Tryz.ntmps92
  go_wp2_with fail
  refine (Compare_any _ _ _).mono ?_
  rintro e w1 ⟨rfl, rfl⟩
  rw [HC.out]
  go_wp2_with fail
  refine (slCompare_eq _ _ a b _ HA.out HB.out).mono ?_
  rintro e w2 ⟨rfl, rfl⟩
  rw [HD.out]
  go_wp2_with fail
  refine (Or_eq _ [C, D] _ (ints_two (Box.new rfl))).mono ?_
  rintro e w3 ⟨rfl, rfl⟩
  obtain ⟨O, hO⟩ : ∃ O, orI [C, D] = O := ⟨_, rfl⟩
  have HO := Lib.hid hO
  rw [hO]
  clear hO
  go_wp2_with fail
  go_ret
  exact ⟨by rw [Hr.out, HO.out]; rfl, _, rfl⟩
/-! ### The order -/
theorem cmpI_self (x : Int) : cmpI x x = 0 := cmpI_zero.2 rfl
theorem cmpI_neg (x y : Int) : cmpI x y = - cmpI y x := by
  unfold cmpI
  by_cases h1 : x < y
  · rw [if_pos h1, if_neg (show ¬ y < x by omega), if_pos h1]
  · by_cases h2 : y < x
    · rw [if_neg h1, if_pos h2, if_pos h2]
      rfl
    · rw [if_neg h1, if_neg h2, if_neg h2, if_neg h1]
      rfl
theorem cmpI_lt {x y : Int} : cmpI x y < 0 ↔ x < y := by
  unfold cmpI
  split
  · constructor
    · intro _; assumption
    · intro _; omega
  · split
    · constructor
      · intro h; omega
      · intro h; omega
    · constructor
      · intro h; omega
      · intro h; omega
/-- a is before b. -/
def ltL : List Int → List Int → Prop
  | [], [] => False
  | [], _ :: _ => True
  | _ :: _, [] => False
  | x :: a, y :: b => x < y ∨ x = y ∧ ltL a b
theorem lexI_lt : ∀ (a b : List Int), lexI a b < 0 ↔ ltL a b
  | [], [] => by simp [lexI, ltL]
  | [], _ :: _ => by simp [lexI, ltL]
  | _ :: _, [] => by simp [lexI, ltL]
  | x :: a, y :: b => by
    unfold lexI ltL
    by_cases h : cmpI x y ≠ 0
    · rw [if_pos h, cmpI_lt]
      have hne : x ≠ y := fun e => h (cmpI_zero.2 e)
      constructor
      · exact .inl
      · rintro (h1 | ⟨h1, _⟩)
        · exact h1
        · exact absurd h1 hne
    · rw [if_neg h, lexI_lt a b]
      have he : x = y := cmpI_zero.1 (Classical.not_not.1 h)
      constructor
      · exact fun h1 => .inr ⟨he, h1⟩
      · rintro (h1 | ⟨_, h1⟩)
        · omega
        · exact h1
theorem ltL_irrefl : ∀ a, ¬ ltL a a
  | [] => id
  | x :: a => by
    rintro (h | ⟨_, h⟩)
    · omega
    · exact ltL_irrefl a h
theorem ltL_trans : ∀ a b c, ltL a b → ltL b c → ltL a c
  | [], [], _, h, _ => h.elim
  | [], _ :: _, [], _, h => h.elim
  | [], _ :: _, _ :: _, _, _ => trivial
  | _ :: _, [], _, h, _ => h.elim
  | _ :: _, _ :: _, [], _, h => h.elim
  | x :: a, y :: b, z :: c, h1, h2 => by
    rcases h1 with h1 | ⟨rfl, h1⟩
    · rcases h2 with h2 | ⟨rfl, h2⟩
      · exact .inl (by omega)
      · exact .inl h1
    · rcases h2 with h2 | ⟨rfl, h2⟩
      · exact .inl h2
      · exact .inr ⟨rfl, ltL_trans a b c h1 h2⟩
theorem ltL_total : ∀ a b, ltL a b ∨ a = b ∨ ltL b a
  | [], [] => .inr (.inl rfl)
  | [], _ :: _ => .inl trivial
  | _ :: _, [] => .inr (.inr trivial)
  | x :: a, y :: b => by
    by_cases h1 : x < y
    · exact .inl (.inl h1)
    · by_cases h2 : y < x
      · exact .inr (.inr (.inl h2))
      · obtain rfl : x = y := by omega
        rcases ltL_total a b with h | h | h
        · exact .inl (.inr ⟨rfl, h⟩)
        · exact .inr (.inl (by rw [h]))
        · exact .inr (.inr (.inr ⟨rfl, h⟩))
/-- a is before b: shorter, or as long and lexicographically before. -/
def ltT (a b : List Int) : Prop := a.length < b.length ∨ a.length = b.length ∧ ltL a b
theorem ordI_lt (a b : List Int) : ordI a b < 0 ↔ ltT a b := by
  unfold ordI ltT
  simp only [orI]
  by_cases h : cmpI (a.length : Int) (b.length : Int) ≠ 0
  · rw [if_pos h, cmpI_lt]
    have hne : (a.length : Int) ≠ (b.length : Int) := fun e => h (cmpI_zero.2 e)
    constructor
    · intro h1; exact .inl (by omega)
    · rintro (h1 | ⟨h1, _⟩)
      · omega
      · omega
  · rw [if_neg h]
    have he : (a.length : Int) = (b.length : Int) := cmpI_zero.1 (Classical.not_not.1 h)
    have e2 : (if lexI a b ≠ 0 then lexI a b else 0) = lexI a b := by
      by_cases h2 : lexI a b ≠ 0
      · rw [if_pos h2]
      · rw [if_neg h2]
        exact (Classical.not_not.1 h2).symm
    rw [e2, lexI_lt]
    constructor
    · exact fun h1 => .inr ⟨by omega, h1⟩
    · rintro (h1 | ⟨_, h1⟩)
      · omega
      · exact h1
theorem ltT_irrefl (a : List Int) : ¬ ltT a a := by
  rintro (h | ⟨_, h⟩)
  · omega
  · exact ltL_irrefl a h
theorem ltT_trans {a b c : List Int} (h1 : ltT a b) (h2 : ltT b c) : ltT a c := by
  rcases h1 with h1 | ⟨e1, h1⟩
  · rcases h2 with h2 | ⟨e2, _⟩
    · exact .inl (by omega)
    · exact .inl (by omega)
  · rcases h2 with h2 | ⟨e2, h2⟩
    · exact .inl (by omega)
    · exact .inr ⟨by omega, ltL_trans a b c h1 h2⟩
theorem ltT_total (a b : List Int) : ltT a b ∨ a = b ∨ ltT b a := by
  by_cases h1 : a.length < b.length
  · exact .inl (.inl h1)
  · by_cases h2 : b.length < a.length
    · exact .inr (.inr (.inl h2))
    · rcases ltL_total a b with h | h | h
      · exact .inl (.inr ⟨by omega, h⟩)
      · exact .inr (.inl h)
      · exact .inr (.inr (.inr ⟨by omega, h⟩))
/-- Two lists in order that hold the same are the same. -/
theorem sorted_unique : ∀ (l1 l2 : List (List Int)), l1.Perm l2 → l1.Pairwise (fun a b => ¬ ltT b a) → l2.Pairwise (fun a b => ¬ ltT b a) → l1 = l2
  | [], l2, h, _, _ => (List.nil_perm.1 h).symm
  | a :: l1, [], h, _, _ => by simpa using h.length_eq
  | a :: l1, b :: l2, h, h1, h2 => by
    rw [List.pairwise_cons] at h1 h2
    have hab : a = b := by
      have ha : a ∈ b :: l2 := h.subset (List.mem_cons_self ..)
      have hb : b ∈ a :: l1 := h.symm.subset (List.mem_cons_self ..)
      rcases List.mem_cons.1 ha with e | ha
      · exact e
      · rcases List.mem_cons.1 hb with e | hb
        · exact e.symm
        · rcases ltT_total a b with h3 | h3 | h3
          · exact absurd h3 (h2.1 a ha)
          · exact h3
          · exact absurd h3 (h1.1 b hb)
    subst hab
    rw [sorted_unique l1 l2 (List.perm_cons a |>.1 h) h1.2 h2.2]
end Go.Proofs.YtonekgefegfapaaGreat
