/-
  WALKS of the checks of a land's parts. Conditions: none but that lists have at most 1000 elements.
-/
import Derived.Test.YtojbdmdjepgpjaaLf
import Derived.Test.YtojbdmdjepgpjaaEv
namespace Go.Proofs.Ytojbdmdjepgpjaa
open Go.RowKit

theorem hasB_any (lo hi n : Int) (w : World) :
    Calls Try.prog 78 #[.agg #[.int .i64 lo, .int .i64 hi], .int .i64 n] w fun e w' => e = .returned (.bool (inB lo hi n)) ∧ Below w.heap.size w w' := has_any lo hi n w

set_option maxHeartbeats 400000 in
theorem isStation_any (h x y z m : Int) (w : World) :
    Calls Try.prog 70 #[frameV h, .agg #[.int .i64 x, .int .i64 y, .int .i64 z, .int .i64 m]] w fun e w' => e = .returned (.bool (stB ⟨x, y, z, m⟩)) ∧ Below w.heap.size w w' := by
  unfold frameV
  cases h1 : inB 0 100 x with
  | false =>
    have hB : Below w.heap.size w w := up0
    go_enter Try.func70, Try.ntmps70
    go_wp2_with (go_at_call 78; refine (hasB_any _ _ _ _).mono ?_; rintro e w1 ⟨rfl, hb1⟩; obtain ⟨hc1, hf1⟩ := bcell hb1; have hz9 := hb1.size; have hl9 : ∀ b, b < _ → b < w1.heap.size := (fun b h => Nat.lt_of_lt_of_le h hz9); have hz0 := hz9; clear hz9; (try simp at hz0); have hz1 : w.heap.size + 1 + 1 ≤ w1.heap.size := (by omega);  clear hz0; have hl0 : w.heap.size < w1.heap.size := (by omega); have hl1 : w.heap.size + 1 < w1.heap.size := (by omega); have hB : Below w.heap.size w w1 := up_later (by repeat (first | exact hB | refine up_alloc ?_ _ | refine up_drew ?_ | refine up_put ?_ (by simp; omega) _)) hb1)
    go_ret
    exact ⟨ret_bool (by simp [stB, *]), hB⟩
  | true =>
    cases h2 : inB 0 100 y with
    | false =>
      have hB : Below w.heap.size w w := up0
      go_enter Try.func70, Try.ntmps70
      go_wp2_with (go_at_call 78; refine (hasB_any _ _ _ _).mono ?_; rintro e w1 ⟨rfl, hb1⟩; obtain ⟨hc1, hf1⟩ := bcell hb1; have hz9 := hb1.size; have hl9 : ∀ b, b < _ → b < w1.heap.size := (fun b h => Nat.lt_of_lt_of_le h hz9); have hz0 := hz9; clear hz9; (try simp at hz0); have hz1 : w.heap.size + 1 + 1 ≤ w1.heap.size := (by omega);  clear hz0; have hl0 : w.heap.size < w1.heap.size := (by omega); have hl1 : w.heap.size + 1 < w1.heap.size := (by omega); have hB : Below w.heap.size w w1 := up_later (by repeat (first | exact hB | refine up_alloc ?_ _ | refine up_drew ?_ | refine up_put ?_ (by simp; omega) _)) hb1)
      go_ret
      exact ⟨ret_bool (by simp [stB, *]), hB⟩
    | true =>
      cases h3 : inB 0 1000 z with
      | false =>
        have hB : Below w.heap.size w w := up0
        go_enter Try.func70, Try.ntmps70
        go_wp2_with (go_at_call 78; refine (hasB_any _ _ _ _).mono ?_; rintro e w1 ⟨rfl, hb1⟩; obtain ⟨hc1, hf1⟩ := bcell hb1; have hz9 := hb1.size; have hl9 : ∀ b, b < _ → b < w1.heap.size := (fun b h => Nat.lt_of_lt_of_le h hz9); have hz0 := hz9; clear hz9; (try simp at hz0); have hz1 : w.heap.size + 1 + 1 ≤ w1.heap.size := (by omega);  clear hz0; have hl0 : w.heap.size < w1.heap.size := (by omega); have hl1 : w.heap.size + 1 < w1.heap.size := (by omega); have hB : Below w.heap.size w w1 := up_later (by repeat (first | exact hB | refine up_alloc ?_ _ | refine up_drew ?_ | refine up_put ?_ (by simp; omega) _)) hb1)
        go_ret
        exact ⟨ret_bool (by simp [stB, *]), hB⟩
      | true =>
        cases h4 : inB 1 2 m with
        | false =>
          have hB : Below w.heap.size w w := up0
          go_enter Try.func70, Try.ntmps70
          go_wp2_with (go_at_call 78; refine (hasB_any _ _ _ _).mono ?_; rintro e w1 ⟨rfl, hb1⟩; obtain ⟨hc1, hf1⟩ := bcell hb1; have hz9 := hb1.size; have hl9 : ∀ b, b < _ → b < w1.heap.size := (fun b h => Nat.lt_of_lt_of_le h hz9); have hz0 := hz9; clear hz9; (try simp at hz0); have hz1 : w.heap.size + 1 + 1 ≤ w1.heap.size := (by omega);  clear hz0; have hl0 : w.heap.size < w1.heap.size := (by omega); have hl1 : w.heap.size + 1 < w1.heap.size := (by omega); have hB : Below w.heap.size w w1 := up_later (by repeat (first | exact hB | refine up_alloc ?_ _ | refine up_drew ?_ | refine up_put ?_ (by simp; omega) _)) hb1)
          go_ret
          exact ⟨ret_bool (by simp [stB, *]), hB⟩
        | true =>
          have hB : Below w.heap.size w w := up0
          go_enter Try.func70, Try.ntmps70
          go_wp2_with (go_at_call 78; refine (hasB_any _ _ _ _).mono ?_; rintro e w1 ⟨rfl, hb1⟩; obtain ⟨hc1, hf1⟩ := bcell hb1; have hz9 := hb1.size; have hl9 : ∀ b, b < _ → b < w1.heap.size := (fun b h => Nat.lt_of_lt_of_le h hz9); have hz0 := hz9; clear hz9; (try simp at hz0); have hz1 : w.heap.size + 1 + 1 ≤ w1.heap.size := (by omega);  clear hz0; have hl0 : w.heap.size < w1.heap.size := (by omega); have hl1 : w.heap.size + 1 < w1.heap.size := (by omega); have hB : Below w.heap.size w w1 := up_later (by repeat (first | exact hB | refine up_alloc ?_ _ | refine up_drew ?_ | refine up_put ?_ (by simp; omega) _)) hb1)
          go_ret
          exact ⟨ret_bool (by simp [stB, *]), hB⟩

set_option maxRecDepth 100000 in
set_option maxHeartbeats 1000000 in
theorem every_int_any (v : Value) (l : List Int) (lo hi : Int) (w : World) (hl : RowsAt w v 1 (fun n => [iv n]) l) :
    Calls Try.prog 79 #[v, .func (.func 78) #[.agg #[iv lo, iv hi]] #[]] w fun e w' => e = .returned (.bool (l.all (inB lo hi))) ∧ Below w.heap.size w w' := by
  obtain ⟨hlen, A, cap, hv, hcap, hmax⟩ := hl.form
  subst hv
  clear hcap hmax
  go_enter Try.func79, Try.ntmps79
  go_wp2
  go_loopw [9] (fun i wr => ∃ k : Nat, k ≤ l.length ∧ i = .int .i64 k ∧ Hid ((l.take k).all (inB lo hi) = true) ∧ Below w.heap.size w wr) (fun i _ => l.length - (intOf i).toNat)
  case atStart => exact ⟨0, by omega, rfl, by simp [Hid], Below.refl _ _⟩
  case round =>
    obtain ⟨k, hk, rfl, hall, hB⟩ := hrel
    by_cases hlt : k < l.length
    · obtain ⟨x, hx⟩ : ∃ x, l[k]? = some x := ⟨_, List.getElem?_eq_getElem hlt⟩
      obtain ⟨b, off, rfl, hb, hc⟩ := (hl.kept hB).at rfl hx
      have Hx := Lib.hid hx
      clear hx
      have q0 : wr.cell? ⟨b, off + k, none⟩ = some (.int .i64 x) := by simpa using hc 0 _ rfl
      clear hc
      cases hp : inB lo hi x with
      | true =>
        go_wp2_with (go_at_call 78; refine (hasB_any _ _ _ _).mono ?_; rintro e w1 ⟨rfl, hb1⟩; have hB : Below w.heap.size w w1 := up_later (by repeat (first | exact hB | refine up_alloc ?_ _ | refine up_drew ?_ | refine up_put ?_ (by simp; omega) _)) hb1)
        go_roundw
        case rel => exact ⟨k + 1, by omega, by go_num, all_take_succ Hx.out hall.out hp, hB⟩
        case measure => simp [intOf]; omega
      | false =>
        go_wp2_with (go_at_call 78; refine (hasB_any _ _ _ _).mono ?_; rintro e w1 ⟨rfl, hb1⟩; have hB : Below w.heap.size w w1 := up_later (by repeat (first | exact hB | refine up_alloc ?_ _ | refine up_drew ?_ | refine up_put ?_ (by simp; omega) _)) hb1)
        go_ret
        exact ⟨ret_bool (all_false Hx.out hp).symm, hB⟩
    · go_wp2
      go_ret
      exact ⟨ret_bool (by have h := hall.out; rw [List.take_of_length_le (by omega)] at h; exact h.symm), hB⟩

set_option maxRecDepth 100000 in
set_option maxHeartbeats 1000000 in
theorem every_Case_any (v : Value) (l : List (Value × List Cl)) (c : Value) (p : List Cl → Bool) (w : World) (hl : RowsAt w v 1 (fun x => [x.1]) l) (hin : ∀ x ∈ l, RowsAt w x.1 8 Cl.cells x.2)
    (hf : ∀ x ∈ l, ∀ w1, Below w.heap.size w w1 → Calls Try.prog 75 #[c, x.1] w1 fun e w2 => e = .returned (.bool (p x.2)) ∧ Below w1.heap.size w1 w2) :
    Calls Try.prog 74 #[v, .func (.func 75) #[c] #[]] w fun e w' => e = .returned (.bool (l.all fun x => p x.2)) ∧ Below w.heap.size w w' := by
  obtain ⟨hlen, A, cap, hv, hcap, hmax⟩ := hl.form
  subst hv
  clear hcap hmax
  go_enter Try.func74, Try.ntmps74
  go_wp2
  go_loopw [9] (fun i wr => ∃ k : Nat, k ≤ l.length ∧ i = .int .i64 k ∧ Hid ((l.take k).all (fun x => p x.2) = true) ∧ Below w.heap.size w wr) (fun i _ => l.length - (intOf i).toNat)
  case atStart => exact ⟨0, by omega, rfl, by simp [Hid], Below.refl _ _⟩
  case round =>
    obtain ⟨k, hk, rfl, hall, hB⟩ := hrel
    by_cases hlt : k < l.length
    · obtain ⟨⟨xv, xl⟩, hx⟩ : ∃ x, l[k]? = some x := ⟨_, List.getElem?_eq_getElem hlt⟩
      obtain ⟨b, off, rfl, hb, hc⟩ := (hl.kept hB).at rfl hx
      have hxin := hin _ (List.mem_of_getElem? hx)
      have hcall := hf _ (List.mem_of_getElem? hx)
      obtain ⟨_, A2, cap2, hv2, _, _⟩ := hxin.form
      simp only at hv2 hcall hc
      subst hv2
      have Hx := Lib.hid hx
      clear hx hxin
      have q0 : wr.cell? ⟨b, off + k, none⟩ = some (.slice A2 xl.length cap2) := by simpa using hc 0 _ rfl
      clear hc
      cases hp : p xl with
      | true =>
        have Hp := Lib.hid hp
        rw [hp] at hcall
        clear hp
        have Hf := Lib.hid hcall
        clear hcall hf
        go_wp2_with fail
        refine (Hf.out _ hB).mono ?_
        rintro e w1 ⟨rfl, hb1⟩
        go_wp2
        go_roundw
        case rel => exact ⟨k + 1, by omega, by go_num, all_take_succ Hx.out hall.out Hp.out, up_later hB hb1⟩
        case measure => simp [intOf]; omega
      | false =>
        have Hp := Lib.hid hp
        rw [hp] at hcall
        clear hp
        have Hf := Lib.hid hcall
        clear hcall hf
        go_wp2_with fail
        refine (Hf.out _ hB).mono ?_
        rintro e w1 ⟨rfl, hb1⟩
        go_wp2
        go_ret
        exact ⟨ret_bool (all_false (p := fun x : Value × List Cl => p x.2) Hx.out Hp.out).symm, up_later hB hb1⟩
    · go_wp2
      go_ret
      exact ⟨ret_bool (by have h := hall.out; rw [List.take_of_length_le (by omega)] at h; exact h.symm), hB⟩

set_option maxHeartbeats 400000 in
theorem long_any (A : Option Addr) (n cap : Nat) (w : World) (hn : n ≤ 1000) :
    Calls Try.prog 66 #[.slice A n cap] w fun e w' => e = .returned (.bool (decide (4 < n))) ∧ w = w' := by
  go_enter Try.func66, Try.ntmps66
  go_wp2
  go_ret
  exact ⟨ret_bool (by simp; omega), rfl⟩

set_option maxRecDepth 100000 in
set_option maxHeartbeats 1000000 in
/-- Whether some case has more than 4 clouds. -/
theorem IndexFunc_Case_any (v : Value) (l : List (Value × List Cl)) (w : World) (hl : RowsAt w v 1 (fun x => [x.1]) l) (hin : ∀ x ∈ l, RowsAt w x.1 8 Cl.cells x.2) :
    Calls Try.prog 93 #[v, .func (.func 66) #[] #[]] w fun e w' => ∃ i : Int, e = .returned (.int .i64 i) ∧ decide (0 ≤ i) = (l.any fun x => decide (4 < x.2.length)) ∧ -1 ≤ i ∧ i ≤ 1000 ∧ Below w.heap.size w w' := by
  obtain ⟨hlen, A, cap, hv, hcap, hmax⟩ := hl.form
  subst hv
  clear hcap hmax
  go_enter Try.func93, Try.ntmps93
  go_wp2
  go_loopw [8] (fun i wr => ∃ k : Nat, k ≤ l.length ∧ i = .int .i64 k ∧ Hid (((l.take k).all fun x => !decide (4 < x.2.length)) = true) ∧ Below w.heap.size w wr) (fun i _ => l.length - (intOf i).toNat)
  case atStart => exact ⟨0, by omega, rfl, by simp [Hid], Below.refl _ _⟩
  case round =>
    obtain ⟨k, hk, rfl, hall, hB⟩ := hrel
    by_cases hlt : k < l.length
    · obtain ⟨⟨xv, xl⟩, hx⟩ : ∃ x, l[k]? = some x := ⟨_, List.getElem?_eq_getElem hlt⟩
      obtain ⟨b, off, rfl, hb, hc⟩ := (hl.kept hB).at rfl hx
      have hxin := hin _ (List.mem_of_getElem? hx)
      obtain ⟨hlen2, A2, cap2, hv2, _, _⟩ := hxin.form
      simp only at hv2 hc hlen2
      subst hv2
      have Hx := Lib.hid hx
      clear hx hxin
      have q0 : wr.cell? ⟨b, off + k, none⟩ = some (.slice A2 xl.length cap2) := by simpa using hc 0 _ rfl
      clear hc
      by_cases h4 : 4 < xl.length
      · have hd : decide (4 < xl.length) = true := by simpa using h4
        go_wp2_with (go_at_call 66; refine (long_any _ _ _ _ hlen2).mono ?_; rintro e w1 ⟨rfl, rfl⟩)
        go_ret
        exact ⟨_, rfl, by simp; exact ⟨_, _, List.mem_of_getElem? Hx.out, h4⟩, by omega, by omega, hB⟩
      · have hd : decide (4 < xl.length) = false := by simpa using h4
        go_wp2_with (go_at_call 66; refine (long_any _ _ _ _ hlen2).mono ?_; rintro e w1 ⟨rfl, rfl⟩)
        go_roundw
        case rel => exact ⟨k + 1, by omega, by go_num, all_take_succ Hx.out hall.out (by simpa using h4), hB⟩
        case measure => simp [intOf]; omega
    · go_wp2
      go_ret
      exact ⟨-1, rfl, by have h := hall.out; rw [List.take_of_length_le (by omega)] at h; simp at h ⊢; exact fun a b hab => h a b hab, by omega, by omega, hB⟩

end Go.Proofs.Ytojbdmdjepgpjaa
