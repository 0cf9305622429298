/-
  WALKS of inOrder and what it calls: cmp.Compare, slices.Compare, cmp.Or. Condition: texts of at most 1000 letters.
-/
import Derived.Test.YtonekgefegfapaaGreatGb
namespace Go.Proofs.YtonekgefegfapaaGreat
open Go.RowKit

/-- -1, 0 or 1. -/
def cmpI (x y : Int) : Int := if x < y then -1 else if y < x then 1 else 0
set_option maxHeartbeats 400000 in
theorem isNaN_any (x : Int) (w : World) : Calls Tryz.prog 137 #[.int .i64 x] w fun e w' => e = .returned (.bool false) ∧ w' = w := by
  go_enter Tryz.func137, Tryz.ntmps137
  go_wp2_with fail
  go_ret
  exact ⟨by simp, rfl⟩
set_option maxHeartbeats 400000 in
theorem Compare_any (x y : Int) (w : World) : Calls Tryz.prog 118 #[.int .i64 x, .int .i64 y] w fun e w' => e = .returned (iv (cmpI x y)) ∧ w' = w := by
  by_cases h1 : x < y
  · have Hr := Lib.hid (show cmpI x y = -1 by unfold cmpI; rw [if_pos h1])
    go_enter Tryz.func118, Tryz.ntmps118
    go_wp2_with fail
    refine (isNaN_any x _).mono ?_
    rintro e w1 ⟨rfl, rfl⟩
    go_wp2_with fail
    refine (isNaN_any y _).mono ?_
    rintro e w1 ⟨rfl, rfl⟩
    go_wp2_with fail
    go_ret
    exact ⟨by rw [Hr.out]; rfl, rfl⟩
  · by_cases h2 : y < x
    · have Hr := Lib.hid (show cmpI x y = 1 by unfold cmpI; rw [if_neg h1, if_pos h2])
      go_enter Tryz.func118, Tryz.ntmps118
      go_wp2_with fail
      refine (isNaN_any x _).mono ?_
      rintro e w1 ⟨rfl, rfl⟩
      go_wp2_with fail
      refine (isNaN_any y _).mono ?_
      rintro e w1 ⟨rfl, rfl⟩
      go_wp2_with fail
      go_ret
      exact ⟨by rw [Hr.out]; rfl, rfl⟩
    · have Hr := Lib.hid (show cmpI x y = 0 by unfold cmpI; rw [if_neg h1, if_neg h2])
      go_enter Tryz.func118, Tryz.ntmps118
      go_wp2_with fail
      refine (isNaN_any x _).mono ?_
      rintro e w1 ⟨rfl, rfl⟩
      go_wp2_with fail
      refine (isNaN_any y _).mono ?_
      rintro e w1 ⟨rfl, rfl⟩
      go_wp2_with fail
      go_ret
      exact ⟨by rw [Hr.out]; rfl, rfl⟩
/-- The first number that is not 0. -/
def orI : List Int → Int
  | [] => 0
  | x :: l => if x ≠ 0 then x else orI l
theorem orI_skip {l : List Int} {k : Nat} (h : ∀ x ∈ l.take k, x = 0) : orI l = orI (l.drop k) := by
  induction k generalizing l with
  | zero => rfl
  | succ k ih =>
    cases l with
    | nil => rfl
    | cons y l =>
      have hy : y = 0 := h y (by simp)
      rw [orI, if_neg (by simp [hy]), List.drop_succ_cons]
      exact ih fun x hx => h x (by simp [hx])
set_option maxRecDepth 100000 in
set_option maxHeartbeats 1000000 in
theorem Or_any (v : Value) (l : List Int) (w : World) (hl : RowsAt w v 1 ic l) : Calls Tryz.prog 117 #[v] w fun e w' => e = .returned (iv (orI l)) ∧ Below w.heap.size w w' := by
  obtain ⟨hlen, A, cap, hv, hcap, hmax⟩ := hl.form
  subst hv
  clear hcap hmax
  go_enter Tryz.func117, Tryz.ntmps117
  go_wp2_with fail
  go_loopw [8] (fun i wr => ∃ k : Nat, k ≤ l.length ∧ i = iv k ∧ Hid (∀ x ∈ l.take k, x = 0) ∧ Below w.heap.size w wr) (fun i _ => l.length - (intOf i).toNat)
  case atStart => exact ⟨0, by omega, rfl, Lib.hid (by simp), Below.refl _ _⟩
  case round =>
    obtain ⟨k, hk, rfl, HN, hB⟩ := hrel
    by_cases hlt : k < l.length
    · obtain ⟨x, hx⟩ : ∃ x, l[k]? = some x := ⟨_, List.getElem?_eq_getElem hlt⟩
      obtain ⟨b, off, rfl, hb, hc⟩ := (hl.kept hB).at rfl hx
      have Hx := Lib.hid hx
      have q0 : wr.cell? ⟨b, off + k, none⟩ = some (.int .i64 x) := by simpa using hc 0 _ rfl
      clear hx hc
      by_cases h0 : x = 0
      · subst h0
        go_wp2_with fail
        go_roundw
        case rel => exact ⟨k + 1, by omega, by go_num, Lib.hid (by
          intro y hy
          rw [List.take_add_one, Hx.out] at hy
          rcases List.mem_append.1 hy with h | h
          · exact HN.out y h
          · simpa using h), hB⟩
        case measure => simp [intOf]; omega
      · have e1 : (x == 0) = false := by rw [beq_eq_false_iff_ne]; exact h0
        have Hr := Lib.hid (show orI l = x by
          rw [orI_skip HN.out, List.drop_eq_getElem_cons hlt, orI]
          have := (List.getElem?_eq_some_iff.1 Hx.out).2
          rw [this, if_pos h0])
        go_wp2_with fail
        go_ret
        exact ⟨by rw [Hr.out]; rfl, hB⟩
    · have Hr := Lib.hid (show orI l = 0 by
        rw [orI_skip HN.out, List.drop_eq_nil_of_le (by omega)]
        rfl)
      go_wp2_with fail
      go_ret
      exact ⟨by rw [Hr.out]; rfl, hB⟩
/-- The order of lists of numbers. -/
def lexI : List Int → List Int → Int
  | [], [] => 0
  | [], _ :: _ => -1
  | _ :: _, [] => 1
  | x :: a, y :: b => if cmpI x y ≠ 0 then cmpI x y else lexI a b
theorem cmpI_zero {x y : Int} : cmpI x y = 0 ↔ x = y := by
  unfold cmpI
  split
  · constructor
    · intro h; cases h
    · intro h; omega
  · split
    · constructor
      · intro h; cases h
      · intro h; omega
    · constructor
      · intro _; omega
      · intro _; rfl
theorem lexI_skip : ∀ {k : Nat} {a b : List Int}, k ≤ a.length → k ≤ b.length → a.take k = b.take k → lexI a b = lexI (a.drop k) (b.drop k)
  | 0, _, _, _, _, _ => rfl
  | k + 1, [], b, h, _, _ => by simp at h
  | k + 1, x :: a, [], _, h, _ => by simp at h
  | k + 1, x :: a, y :: b, h1, h2, h => by
    simp only [List.take_succ_cons, List.cons.injEq] at h
    rw [lexI, if_neg (by rw [cmpI_zero.2 h.1]; simp), List.drop_succ_cons, List.drop_succ_cons]
    exact lexI_skip (by simpa using h1) (by simpa using h2) h.2
set_option maxRecDepth 100000 in
set_option maxHeartbeats 2000000 in
theorem slCompare_any (v u : Value) (a b : List Int) (w : World) (ha : RowsAt w v 1 ic a) (hb : RowsAt w u 1 ic b) : Calls Tryz.prog 119 #[v, u] w fun e w' => e = .returned (iv (lexI a b)) ∧ Below w.heap.size w w' := by
  obtain ⟨hla, A, cap, hv, hcap, hmax⟩ := ha.form
  subst hv
  clear hcap hmax
  obtain ⟨hlb, B, capb, hv2, hcap, hmax⟩ := hb.form
  subst hv2
  clear hcap hmax
  go_enter Tryz.func119, Tryz.ntmps119
  go_wp2_with fail
  go_loopw [11] (fun i wr => ∃ k : Nat, k ≤ a.length ∧ k ≤ b.length ∧ i = iv k ∧ Hid (a.take k = b.take k) ∧ Below w.heap.size w wr) (fun i _ => a.length - (intOf i).toNat)
  case atStart => exact ⟨0, by omega, by omega, rfl, Lib.hid (by simp), Below.refl _ _⟩
  case round =>
    obtain ⟨k, hk, hkb, rfl, HN, hB⟩ := hrel
    by_cases hlt : k < a.length
    · obtain ⟨x, hx⟩ : ∃ x, a[k]? = some x := ⟨_, List.getElem?_eq_getElem hlt⟩
      obtain ⟨g, off, rfl, hgl, hc⟩ := (ha.kept hB).at rfl hx
      have Hx := Lib.hid hx
      have q0 : wr.cell? ⟨g, off + k, none⟩ = some (.int .i64 x) := by simpa using hc 0 _ rfl
      clear hx hc
      by_cases hlt2 : k < b.length
      · obtain ⟨y, hy⟩ : ∃ y, b[k]? = some y := ⟨_, List.getElem?_eq_getElem hlt2⟩
        obtain ⟨g2, off2, rfl, hgl2, hc2⟩ := (hb.kept hB).at rfl hy
        have Hy := Lib.hid hy
        have q1 : wr.cell? ⟨g2, off2 + k, none⟩ = some (.int .i64 y) := by simpa using hc2 0 _ rfl
        clear hy hc2
        have hl1 : ¬ (b.length : Int) ≤ (k : Int) := by omega
        by_cases hc0 : cmpI x y = 0
        · have Hc := Lib.hid hc0
          have HN' := Lib.hid (show a.take (k + 1) = b.take (k + 1) by rw [List.take_add_one, List.take_add_one, HN.out, Hx.out, Hy.out, cmpI_zero.1 hc0])
          clear hc0
          go_wp2_with fail
          refine (Compare_any x y _).mono ?_
          rintro e w1 ⟨rfl, rfl⟩
          rw [Hc.out]
          go_wp2_with fail
          go_roundw
          case rel => exact ⟨k + 1, by omega, by omega, by go_num, HN', hB⟩
          case measure => simp [intOf]; omega
        · obtain ⟨C, hC⟩ : ∃ C, cmpI x y = C := ⟨_, rfl⟩
          rw [hC] at hc0
          have HC := Lib.hid hC
          have e1 : (C == 0) = false := by rw [beq_eq_false_iff_ne]; exact hc0
          have Hr := Lib.hid (show lexI a b = C by
            rw [lexI_skip hk hkb HN.out, List.drop_eq_getElem_cons hlt, List.drop_eq_getElem_cons hlt2, lexI, (List.getElem?_eq_some_iff.1 Hx.out).2, (List.getElem?_eq_some_iff.1 Hy.out).2, hC, if_pos hc0])
          clear hC
          go_wp2_with fail
          refine (Compare_any x y _).mono ?_
          rintro e w1 ⟨rfl, rfl⟩
          rw [HC.out]
          go_wp2_with fail
          go_ret
          exact ⟨by rw [Hr.out]; rfl, hB⟩
      · have hl1 : (b.length : Int) ≤ (k : Int) := by omega
        have Hr := Lib.hid (show lexI a b = 1 by
          rw [lexI_skip hk hkb HN.out, List.drop_eq_getElem_cons hlt, List.drop_eq_nil_of_le (show b.length ≤ k by omega), lexI])
        go_wp2_with fail
        go_ret
        exact ⟨by rw [Hr.out]; rfl, hB⟩
    · by_cases hl2 : (a.length : Int) < (b.length : Int)
      · have Hr := Lib.hid (show lexI a b = -1 by
          rw [lexI_skip hk hkb HN.out, List.drop_eq_nil_of_le (show a.length ≤ k by omega), List.drop_eq_getElem_cons (show k < b.length by omega), lexI])
        go_wp2_with fail
        go_ret
        exact ⟨by rw [Hr.out]; rfl, hB⟩
      · have Hr := Lib.hid (show lexI a b = 0 by
          rw [lexI_skip hk hkb HN.out, List.drop_eq_nil_of_le (show a.length ≤ k by omega), List.drop_eq_nil_of_le (show b.length ≤ k by omega), lexI])
        go_wp2_with fail
        go_ret
        exact ⟨by rw [Hr.out]; rfl, hB⟩
/-- Shorter texts first, then in order. -/
def ordI (a b : List Int) : Int := orI [cmpI a.length b.length, lexI a b]
theorem ints_two {w : World} {g : Nat} {x y : Int} (h : Box w g 3 #[iv x, iv y]) : RowsAt w (.slice (some ⟨g, 0, none⟩) 2 2) 1 ic [x, y] :=
  ⟨by simp, _, _, rfl, by simp, by decide, fun _ => ⟨g, 0, rfl, h.lt, fun i z hz j u hu => by
    rw [h.cell]
    rcases i with _ | _ | i
    · obtain rfl : z = x := by simpa using hz.symm
      rcases j with _ | j
      · obtain rfl : u = iv z := by simpa [ic] using hu.symm
        rfl
      · simp [ic] at hu
    · obtain rfl : z = y := by simpa using hz.symm
      rcases j with _ | j
      · obtain rfl : u = iv z := by simpa [ic] using hu.symm
        rfl
      · simp [ic] at hu
    · simp at hz⟩⟩
set_option maxRecDepth 100000 in
set_option maxHeartbeats 1000000 in
theorem inOrder_any (v u : Value) (a b : List Int) (w : World) (ha : RowsAt w v 1 ic a) (hb : RowsAt w u 1 ic b) : Calls Tryz.prog 92 #[v, u] w fun e w' => e = .returned (iv (ordI a b)) ∧ Below w.heap.size w w' := by
  obtain ⟨hla, A, cap, hv, hcap, hmax⟩ := ha.form
  subst hv
  clear hcap hmax
  obtain ⟨hlb, B, capb, hv2, hcap, hmax⟩ := hb.form
  subst hv2
  clear hcap hmax
  have HA := Lib.hid ha
  have HB := Lib.hid hb
  clear ha hb
  obtain ⟨C, hC⟩ : ∃ C, cmpI (a.length : Int) (b.length : Int) = C := ⟨_, rfl⟩
  obtain ⟨D, hD⟩ : ∃ D, lexI a b = D := ⟨_, rfl⟩
  have HC := Lib.hid hC
  have HD := Lib.hid hD
  have Hr := Lib.hid (show ordI a b = orI [C, D] by unfold ordI; rw [hC, hD])
  clear hC hD
  go_enter Tryz.func92, Tryz.ntmps92
  go_wp2_with fail
  refine (Compare_any _ _ _).mono ?_
  rintro e w1 ⟨rfl, rfl⟩
  rw [HC.out]
  go_wp2_with fail
  refine (slCompare_any _ _ a b _ HA.out HB.out).mono ?_
  rintro e w2 ⟨rfl, hb2⟩
  rw [HD.out]
  have HB2 := Lib.hid hb2
  clear hb2
  go_wp2_with fail
  refine (Or_any _ [C, D] _ (ints_two (Box.new rfl))).mono ?_
  rintro e w3 ⟨rfl, hb3⟩
  have hB3 := up_later (up_alloc HB2.out _) hb3
  obtain ⟨O, hO⟩ : ∃ O, orI [C, D] = O := ⟨_, rfl⟩
  have HO := Lib.hid hO
  rw [hO]
  clear hb3 hO
  go_wp2_with fail
  go_ret
  exact ⟨by rw [Hr.out, HO.out]; rfl, hB3⟩
end Go.Proofs.YtonekgefegfapaaGreat
