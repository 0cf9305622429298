/-
  WALKS of the reference's In, Prime, IsKey. No condition.
-/
import Derived.Test.YtkhfkmfofhnmdaaDb
namespace Go.Proofs.Ytkhfkmfofhnmdaa
open Go.RowKit Go.Shelf
attribute [local go_sem] Oper.semAt_some

theorem inB_below (n e : Int) : inB 0 (e - 1) n = belowB n e := by
  rw [Bool.eq_iff_iff, inB_iff, belowB_iff]
  omega

set_option maxRecDepth 100000 in
set_option maxHeartbeats 1000000 in
theorem In_any (n lo hi : Int) (w : World) : Calls Try.prog 24 #[.int .i64 n, .int .i64 lo, .int .i64 hi] w fun e w' => e = .returned (.bool (inB lo hi n)) ∧ w = w' := by
  by_cases h1 : lo ≤ n
  · by_cases h2 : n ≤ hi
    · have d1 : decide (lo ≤ n) = true := by simp [h1]
      have d2 : decide (n ≤ hi) = true := by simp [h2]
      go_enter Try.func24, Try.ntmps24
      go_wp2
      go_ret
      exact ⟨by simp [inB, h1, h2], rfl⟩
    · have d1 : decide (lo ≤ n) = true := by simp [h1]
      have d2 : decide (n ≤ hi) = false := by simp; omega
      go_enter Try.func24, Try.ntmps24
      go_wp2
      go_ret
      exact ⟨by simp [inB, h1, h2], rfl⟩
  · have d1 : decide (lo ≤ n) = false := by simp; omega
    go_enter Try.func24, Try.ntmps24
    go_wp2
    go_ret
    exact ⟨by simp [inB]; omega, rfl⟩

/-- The numbers that a Size can be. -/
def primesL : List Int := [13, 17, 19, 23, 29, 31, 37, 41]
set_option maxRecDepth 100000 in
set_option maxHeartbeats 1000000 in
theorem Prime_any (n : Int) (w : World) : Calls Try.prog 93 #[iv n] w fun e w' => e = .returned (.bool (primesL.contains n)) ∧ Below w.heap.size w w' := by
  go_enter Try.func93, Try.ntmps93
  go_wp2_with fail
  have N := Box.new (w := w) (t := 157) (cs := #[iv 13, iv 17, iv 19, iv 23, iv 29, iv 31, iv 37, iv 41]) rfl
  have hB : Below w.heap.size w (w.alloc (.cells #[iv 13, iv 17, iv 19, iv 23, iv 29, iv 31, iv 37, iv 41] 157)) := up_alloc up0 _
  go_loopw [4] (fun i wr => ∃ k : Nat, k ≤ 8 ∧ i = .int .i64 k ∧ (∀ x ∈ primesL.take k, x ≠ n) ∧ Box wr w.heap.size 157 #[iv 13, iv 17, iv 19, iv 23, iv 29, iv 31, iv 37, iv 41] ∧ Below w.heap.size w wr) (fun i _ => 8 - (intOf i).toNat)
  case atStart => exact ⟨0, by omega, rfl, by simp, N, hB⟩
  case round =>
    clear N hB
    obtain ⟨k, hk, rfl, hno, N, hB⟩ := hrel
    have Hno := Lib.hid hno
    have c1 := fun i => N.cell i
    clear hno
    by_cases hlt : k < 8
    · obtain ⟨x, hx⟩ : ∃ x, primesL[k]? = some x := ⟨_, List.getElem?_eq_getElem (by simpa [primesL] using hlt)⟩
      have q0 : wr.cell? ⟨w.heap.size, k, none⟩ = some (.int .i64 x) := by
        rw [c1]
        have := congrArg (Option.map iv) hx
        rw [← List.getElem?_map] at this
        simpa [primesL] using this
      have HX := Lib.hid hx
      clear c1 hx
      by_cases hxn : x = n
      · subst hxn
        have hf : primesL.contains x = true := by simpa using List.mem_of_getElem? HX.out
        have Hf := Lib.hid hf
        clear hf
        go_wp2_with fail
        go_ret
        exact ⟨by rw [Hf.out]; rfl, hB⟩
      · have hxn' : (x == n) = false := by rw [beq_eq_false_iff_ne]; exact hxn
        go_wp2_with fail
        go_roundw
        case rel =>
          refine ⟨k + 1, by omega, by go_num, fun y hy => ?_, N, hB⟩
          rw [List.take_add_one, HX.out] at hy
          rcases List.mem_append.1 hy with h | h
          · exact Hno.out y h
          · obtain rfl : y = x := by simpa using h
            exact hxn
        case measure => simp [intOf]; omega
    · obtain rfl : k = 8 := by omega
      have hf : primesL.contains n = false := by
        cases h : primesL.contains n with
        | false => rfl
        | true => exact absurd rfl (Hno.out n (by simpa [primesL] using h))
      have Hf := Lib.hid hf
      clear hf
      go_wp2_with fail
      go_ret
      exact ⟨by rw [Hf.out]; rfl, hB⟩

def refKeyB (n : Int) (k : Ky) : Bool := inB 1 (n - 1) k.m && inB 0 (n - 1) k.a && inB 0 (n - 1) k.s
theorem refKeyB_eq (n : Int) (k : Ky) : refKeyB n k = keyB n k := by
  rw [Bool.eq_iff_iff]
  simp only [refKeyB, keyB, inB, belowB, Bool.and_eq_true, decide_eq_true_eq, bne_iff_ne, ne_eq]
  omega
set_option maxRecDepth 100000 in
set_option maxHeartbeats 1000000 in
theorem IsKey_any (n ws : Int) (v1 v2 : Value) (k : Ky) (w : World) (hn0 : 13 ≤ n) (hn1 : n ≤ 41) : Calls Try.prog 94 #[.agg #[iv n, iv ws, v1, v2], .agg #[iv k.m, iv k.a, iv k.s]] w fun e w' => e = .returned (.bool (keyB n k)) ∧ Below w.heap.size w w' := by
  rw [← refKeyB_eq]
  cases k1 : inB 1 (n - 1) k.m with
  | false =>
    go_enter Try.func94, Try.ntmps94
    go_wp2_with (go_at_call 24; refine (In_any _ _ _ _).mono ?_; rintro e wz ⟨rfl, rfl⟩)
    go_ret
    exact ⟨by simp [refKeyB, *], up_alloc (up_alloc up0 _) _⟩
  | true =>
    cases k2 : inB 0 (n - 1) k.a with
    | false =>
      go_enter Try.func94, Try.ntmps94
      go_wp2_with (go_at_call 24; refine (In_any _ _ _ _).mono ?_; rintro e wz ⟨rfl, rfl⟩)
      go_ret
      exact ⟨by simp [refKeyB, *], up_alloc (up_alloc up0 _) _⟩
    | true =>
      cases k3 : inB 0 (n - 1) k.s with
      | false =>
        go_enter Try.func94, Try.ntmps94
        go_wp2_with (go_at_call 24; refine (In_any _ _ _ _).mono ?_; rintro e wz ⟨rfl, rfl⟩)
        go_ret
        exact ⟨by simp [refKeyB, *], up_alloc (up_alloc up0 _) _⟩
      | true =>
        go_enter Try.func94, Try.ntmps94
        go_wp2_with (go_at_call 24; refine (In_any _ _ _ _).mono ?_; rintro e wz ⟨rfl, rfl⟩)
        go_ret
        exact ⟨by simp [refKeyB, *], up_alloc (up_alloc up0 _) _⟩
end Go.Proofs.Ytkhfkmfofhnmdaa
