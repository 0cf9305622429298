/-
  WALKS of 'every' at each of its element types and tests: true if the test is true of each element. Conditions: lists have at most 1000 elements.
-/
import Derived.Test.YtkhfkmfofhnmdaaCb
namespace Go.Proofs.Ytkhfkmfofhnmdaa
open Go.RowKit

set_option maxRecDepth 100000 in
set_option maxHeartbeats 1000000 in
theorem every_plain (v : Value) (l : List Int) (c : Value) (p : Int → Bool) (w : World) (hl : RowsAt w v 1 ic l)
    (hf : ∀ x ∈ l, ∀ w1, Below w.heap.size w w1 → Calls Try.prog 58 #[c, iv x] w1 fun e w2 => e = .returned (.bool (p x)) ∧ Below w1.heap.size w1 w2) :
    Calls Try.prog 57 #[v, .func (.func 58) #[c] #[]] w fun e w' => e = .returned (.bool (l.all p)) ∧ Below w.heap.size w w' := by
  obtain ⟨hlen, A, cap, hv, hcap, hmax⟩ := hl.form
  subst hv
  clear hcap hmax
  go_enter Try.func57, Try.ntmps57
  go_wp2
  go_loopw [9] (fun i wr => ∃ k : Nat, k ≤ l.length ∧ i = .int .i64 k ∧ Hid ((l.take k).all p = true) ∧ Below w.heap.size w wr) (fun i _ => l.length - (intOf i).toNat)
  case atStart => exact ⟨0, by omega, rfl, by simp [Hid], Below.refl _ _⟩
  case round =>
    obtain ⟨k, hk, rfl, hall, hB⟩ := hrel
    by_cases hlt : k < l.length
    · obtain ⟨x, hx⟩ : ∃ x, l[k]? = some x := ⟨_, List.getElem?_eq_getElem hlt⟩
      obtain ⟨b, off, rfl, hb, hc⟩ := (hl.kept hB).at rfl hx
      have hcall := hf x (List.mem_of_getElem? hx)
      have Hx := Lib.hid hx
      clear hx
      have q0 : wr.cell? ⟨b, off + k, none⟩ = some (.int .i64 x) := by simpa using hc 0 _ rfl
      clear hc
      cases hp : p x with
      | true =>
        have Hp := Lib.hid hp
        rw [hp] at hcall
        clear hp
        have Hf := Lib.hid hcall
        clear hcall hf
        go_wp2_with fail
        refine (Hf.out _ hB).mono ?_
        rintro e w1 ⟨rfl, hb1⟩
        go_wp2
        go_roundw
        case rel => exact ⟨k + 1, by omega, by go_num, all_take_succ Hx.out hall.out Hp.out, up_later hB hb1⟩
        case measure => simp [intOf]; omega
      | false =>
        have Hp := Lib.hid hp
        rw [hp] at hcall
        clear hp
        have Hf := Lib.hid hcall
        clear hcall hf
        go_wp2_with fail
        refine (Hf.out _ hB).mono ?_
        rintro e w1 ⟨rfl, hb1⟩
        go_wp2
        go_ret
        exact ⟨ret_bool (all_false Hx.out Hp.out).symm, up_later hB hb1⟩
    · go_wp2
      go_ret
      exact ⟨ret_bool (by have h := hall.out; rw [List.take_of_length_le (by omega)] at h; exact h.symm), hB⟩
set_option maxRecDepth 100000 in
set_option maxHeartbeats 1000000 in
theorem every_day (v : Value) (l : List Int) (c : Value) (p : Int → Bool) (w : World) (hl : RowsAt w v 1 ic l)
    (hf : ∀ x ∈ l, ∀ w1, Below w.heap.size w w1 → Calls Try.prog 85 #[c, iv x] w1 fun e w2 => e = .returned (.bool (p x)) ∧ Below w1.heap.size w1 w2) :
    Calls Try.prog 57 #[v, .func (.func 85) #[c] #[]] w fun e w' => e = .returned (.bool (l.all p)) ∧ Below w.heap.size w w' := by
  obtain ⟨hlen, A, cap, hv, hcap, hmax⟩ := hl.form
  subst hv
  clear hcap hmax
  go_enter Try.func57, Try.ntmps57
  go_wp2
  go_loopw [9] (fun i wr => ∃ k : Nat, k ≤ l.length ∧ i = .int .i64 k ∧ Hid ((l.take k).all p = true) ∧ Below w.heap.size w wr) (fun i _ => l.length - (intOf i).toNat)
  case atStart => exact ⟨0, by omega, rfl, by simp [Hid], Below.refl _ _⟩
  case round =>
    obtain ⟨k, hk, rfl, hall, hB⟩ := hrel
    by_cases hlt : k < l.length
    · obtain ⟨x, hx⟩ : ∃ x, l[k]? = some x := ⟨_, List.getElem?_eq_getElem hlt⟩
      obtain ⟨b, off, rfl, hb, hc⟩ := (hl.kept hB).at rfl hx
      have hcall := hf x (List.mem_of_getElem? hx)
      have Hx := Lib.hid hx
      clear hx
      have q0 : wr.cell? ⟨b, off + k, none⟩ = some (.int .i64 x) := by simpa using hc 0 _ rfl
      clear hc
      cases hp : p x with
      | true =>
        have Hp := Lib.hid hp
        rw [hp] at hcall
        clear hp
        have Hf := Lib.hid hcall
        clear hcall hf
        go_wp2_with fail
        refine (Hf.out _ hB).mono ?_
        rintro e w1 ⟨rfl, hb1⟩
        go_wp2
        go_roundw
        case rel => exact ⟨k + 1, by omega, by go_num, all_take_succ Hx.out hall.out Hp.out, up_later hB hb1⟩
        case measure => simp [intOf]; omega
      | false =>
        have Hp := Lib.hid hp
        rw [hp] at hcall
        clear hp
        have Hf := Lib.hid hcall
        clear hcall hf
        go_wp2_with fail
        refine (Hf.out _ hB).mono ?_
        rintro e w1 ⟨rfl, hb1⟩
        go_wp2
        go_ret
        exact ⟨ret_bool (all_false Hx.out Hp.out).symm, up_later hB hb1⟩
    · go_wp2
      go_ret
      exact ⟨ret_bool (by have h := hall.out; rw [List.take_of_length_le (by omega)] at h; exact h.symm), hB⟩
set_option maxRecDepth 100000 in
set_option maxHeartbeats 1000000 in
theorem every_used (v : Value) (l : List Int) (c : Value) (p : Int → Bool) (w : World) (hl : RowsAt w v 1 ic l)
    (hf : ∀ x ∈ l, ∀ w1, Below w.heap.size w w1 → Calls Try.prog 105 #[iv x, c] w1 fun e w2 => e = .returned (.bool (p x)) ∧ Below w1.heap.size w1 w2) :
    Calls Try.prog 57 #[v, .func (.func 105) #[] #[c]] w fun e w' => e = .returned (.bool (l.all p)) ∧ Below w.heap.size w w' := by
  obtain ⟨hlen, A, cap, hv, hcap, hmax⟩ := hl.form
  subst hv
  clear hcap hmax
  go_enter Try.func57, Try.ntmps57
  go_wp2
  go_loopw [9] (fun i wr => ∃ k : Nat, k ≤ l.length ∧ i = .int .i64 k ∧ Hid ((l.take k).all p = true) ∧ Below w.heap.size w wr) (fun i _ => l.length - (intOf i).toNat)
  case atStart => exact ⟨0, by omega, rfl, by simp [Hid], Below.refl _ _⟩
  case round =>
    obtain ⟨k, hk, rfl, hall, hB⟩ := hrel
    by_cases hlt : k < l.length
    · obtain ⟨x, hx⟩ : ∃ x, l[k]? = some x := ⟨_, List.getElem?_eq_getElem hlt⟩
      obtain ⟨b, off, rfl, hb, hc⟩ := (hl.kept hB).at rfl hx
      have hcall := hf x (List.mem_of_getElem? hx)
      have Hx := Lib.hid hx
      clear hx
      have q0 : wr.cell? ⟨b, off + k, none⟩ = some (.int .i64 x) := by simpa using hc 0 _ rfl
      clear hc
      cases hp : p x with
      | true =>
        have Hp := Lib.hid hp
        rw [hp] at hcall
        clear hp
        have Hf := Lib.hid hcall
        clear hcall hf
        go_wp2_with fail
        refine (Hf.out _ hB).mono ?_
        rintro e w1 ⟨rfl, hb1⟩
        go_wp2
        go_roundw
        case rel => exact ⟨k + 1, by omega, by go_num, all_take_succ Hx.out hall.out Hp.out, up_later hB hb1⟩
        case measure => simp [intOf]; omega
      | false =>
        have Hp := Lib.hid hp
        rw [hp] at hcall
        clear hp
        have Hf := Lib.hid hcall
        clear hcall hf
        go_wp2_with fail
        refine (Hf.out _ hB).mono ?_
        rintro e w1 ⟨rfl, hb1⟩
        go_wp2
        go_ret
        exact ⟨ret_bool (all_false Hx.out Hp.out).symm, up_later hB hb1⟩
    · go_wp2
      go_ret
      exact ⟨ret_bool (by have h := hall.out; rw [List.take_of_length_le (by omega)] at h; exact h.symm), hB⟩
set_option maxRecDepth 100000 in
set_option maxHeartbeats 1000000 in
theorem every_key (v : Value) (l : List Ky) (c : Value) (p : Ky → Bool) (w : World) (hl : RowsAt w v 3 Ky.cells l)
    (hf : ∀ x ∈ l, ∀ w1, Below w.heap.size w w1 → Calls Try.prog 84 #[c, .agg #[iv x.m, iv x.a, iv x.s]] w1 fun e w2 => e = .returned (.bool (p x)) ∧ Below w1.heap.size w1 w2) :
    Calls Try.prog 83 #[v, .func (.func 84) #[c] #[]] w fun e w' => e = .returned (.bool (l.all p)) ∧ Below w.heap.size w w' := by
  obtain ⟨hlen, A, cap, hv, hcap, hmax⟩ := hl.form
  subst hv
  clear hcap hmax
  go_enter Try.func83, Try.ntmps83
  go_wp2
  go_loopw [9] (fun i wr => ∃ k : Nat, k ≤ l.length ∧ i = .int .i64 k ∧ Hid ((l.take k).all p = true) ∧ Below w.heap.size w wr) (fun i _ => l.length - (intOf i).toNat)
  case atStart => exact ⟨0, by omega, rfl, by simp [Hid], Below.refl _ _⟩
  case round =>
    obtain ⟨k, hk, rfl, hall, hB⟩ := hrel
    by_cases hlt : k < l.length
    · obtain ⟨x, hx⟩ : ∃ x, l[k]? = some x := ⟨_, List.getElem?_eq_getElem hlt⟩
      obtain ⟨b, off, rfl, hb, hc⟩ := (hl.kept hB).at rfl hx
      have hcall := hf x (List.mem_of_getElem? hx)
      have Hx := Lib.hid hx
      clear hx
      have q0 : wr.cell? ⟨b, off + k * 3, none⟩ = some (.int .i64 x.m) := hc 0 _ rfl; have q1 : wr.cell? ⟨b, off + k * 3 + 1, none⟩ = some (.int .i64 x.a) := hc 1 _ rfl; have q2 : wr.cell? ⟨b, off + k * 3 + 2, none⟩ = some (.int .i64 x.s) := hc 2 _ rfl
      clear hc
      cases hp : p x with
      | true =>
        have Hp := Lib.hid hp
        rw [hp] at hcall
        clear hp
        have Hf := Lib.hid hcall
        clear hcall hf
        go_wp2_with fail
        refine (Hf.out _ (up_alloc hB _)).mono ?_
        rintro e w1 ⟨rfl, hb1⟩
        go_wp2
        go_roundw
        case rel => exact ⟨k + 1, by omega, by go_num, all_take_succ Hx.out hall.out Hp.out, up_later (up_alloc hB _) hb1⟩
        case measure => simp [intOf]; omega
      | false =>
        have Hp := Lib.hid hp
        rw [hp] at hcall
        clear hp
        have Hf := Lib.hid hcall
        clear hcall hf
        go_wp2_with fail
        refine (Hf.out _ (up_alloc hB _)).mono ?_
        rintro e w1 ⟨rfl, hb1⟩
        go_wp2
        go_ret
        exact ⟨ret_bool (all_false Hx.out Hp.out).symm, up_later (up_alloc hB _) hb1⟩
    · go_wp2
      go_ret
      exact ⟨ret_bool (by have h := hall.out; rw [List.take_of_length_le (by omega)] at h; exact h.symm), hB⟩
set_option maxRecDepth 100000 in
set_option maxHeartbeats 1000000 in
theorem every_loss (v : Value) (l : List Ls) (c : Value) (p : Ls → Bool) (w : World) (hl : RowsAt w v 2 Ls.cells l)
    (hf : ∀ x ∈ l, ∀ w1, Below w.heap.size w w1 → Calls Try.prog 87 #[c, .agg #[iv x.k, iv x.d]] w1 fun e w2 => e = .returned (.bool (p x)) ∧ Below w1.heap.size w1 w2) :
    Calls Try.prog 86 #[v, .func (.func 87) #[c] #[]] w fun e w' => e = .returned (.bool (l.all p)) ∧ Below w.heap.size w w' := by
  obtain ⟨hlen, A, cap, hv, hcap, hmax⟩ := hl.form
  subst hv
  clear hcap hmax
  go_enter Try.func86, Try.ntmps86
  go_wp2
  go_loopw [9] (fun i wr => ∃ k : Nat, k ≤ l.length ∧ i = .int .i64 k ∧ Hid ((l.take k).all p = true) ∧ Below w.heap.size w wr) (fun i _ => l.length - (intOf i).toNat)
  case atStart => exact ⟨0, by omega, rfl, by simp [Hid], Below.refl _ _⟩
  case round =>
    obtain ⟨k, hk, rfl, hall, hB⟩ := hrel
    by_cases hlt : k < l.length
    · obtain ⟨x, hx⟩ : ∃ x, l[k]? = some x := ⟨_, List.getElem?_eq_getElem hlt⟩
      obtain ⟨b, off, rfl, hb, hc⟩ := (hl.kept hB).at rfl hx
      have hcall := hf x (List.mem_of_getElem? hx)
      have Hx := Lib.hid hx
      clear hx
      have q0 : wr.cell? ⟨b, off + k * 2, none⟩ = some (.int .i64 x.k) := hc 0 _ rfl; have q1 : wr.cell? ⟨b, off + k * 2 + 1, none⟩ = some (.int .i64 x.d) := hc 1 _ rfl
      clear hc
      cases hp : p x with
      | true =>
        have Hp := Lib.hid hp
        rw [hp] at hcall
        clear hp
        have Hf := Lib.hid hcall
        clear hcall hf
        go_wp2_with fail
        refine (Hf.out _ (up_alloc hB _)).mono ?_
        rintro e w1 ⟨rfl, hb1⟩
        go_wp2
        go_roundw
        case rel => exact ⟨k + 1, by omega, by go_num, all_take_succ Hx.out hall.out Hp.out, up_later (up_alloc hB _) hb1⟩
        case measure => simp [intOf]; omega
      | false =>
        have Hp := Lib.hid hp
        rw [hp] at hcall
        clear hp
        have Hf := Lib.hid hcall
        clear hcall hf
        go_wp2_with fail
        refine (Hf.out _ (up_alloc hB _)).mono ?_
        rintro e w1 ⟨rfl, hb1⟩
        go_wp2
        go_ret
        exact ⟨ret_bool (all_false Hx.out Hp.out).symm, up_later (up_alloc hB _) hb1⟩
    · go_wp2
      go_ret
      exact ⟨ret_bool (by have h := hall.out; rw [List.take_of_length_le (by omega)] at h; exact h.symm), hB⟩
set_option maxRecDepth 100000 in
set_option maxHeartbeats 1000000 in
theorem every_guess (v : Value) (l : List Gs) (c : Value) (p : Gs → Bool) (w : World) (hl : RowsAt w v 2 Gs.cells l)
    (hf : ∀ x ∈ l, ∀ w1, Below w.heap.size w w1 → Calls Try.prog 107 #[c, .agg #[iv x.a, iv x.p]] w1 fun e w2 => e = .returned (.bool (p x)) ∧ Below w1.heap.size w1 w2) :
    Calls Try.prog 106 #[v, .func (.func 107) #[c] #[]] w fun e w' => e = .returned (.bool (l.all p)) ∧ Below w.heap.size w w' := by
  obtain ⟨hlen, A, cap, hv, hcap, hmax⟩ := hl.form
  subst hv
  clear hcap hmax
  go_enter Try.func106, Try.ntmps106
  go_wp2
  go_loopw [9] (fun i wr => ∃ k : Nat, k ≤ l.length ∧ i = .int .i64 k ∧ Hid ((l.take k).all p = true) ∧ Below w.heap.size w wr) (fun i _ => l.length - (intOf i).toNat)
  case atStart => exact ⟨0, by omega, rfl, by simp [Hid], Below.refl _ _⟩
  case round =>
    obtain ⟨k, hk, rfl, hall, hB⟩ := hrel
    by_cases hlt : k < l.length
    · obtain ⟨x, hx⟩ : ∃ x, l[k]? = some x := ⟨_, List.getElem?_eq_getElem hlt⟩
      obtain ⟨b, off, rfl, hb, hc⟩ := (hl.kept hB).at rfl hx
      have hcall := hf x (List.mem_of_getElem? hx)
      have Hx := Lib.hid hx
      clear hx
      have q0 : wr.cell? ⟨b, off + k * 2, none⟩ = some (.int .i64 x.a) := hc 0 _ rfl; have q1 : wr.cell? ⟨b, off + k * 2 + 1, none⟩ = some (.int .i64 x.p) := hc 1 _ rfl
      clear hc
      cases hp : p x with
      | true =>
        have Hp := Lib.hid hp
        rw [hp] at hcall
        clear hp
        have Hf := Lib.hid hcall
        clear hcall hf
        go_wp2_with fail
        refine (Hf.out _ (up_alloc hB _)).mono ?_
        rintro e w1 ⟨rfl, hb1⟩
        go_wp2
        go_roundw
        case rel => exact ⟨k + 1, by omega, by go_num, all_take_succ Hx.out hall.out Hp.out, up_later (up_alloc hB _) hb1⟩
        case measure => simp [intOf]; omega
      | false =>
        have Hp := Lib.hid hp
        rw [hp] at hcall
        clear hp
        have Hf := Lib.hid hcall
        clear hcall hf
        go_wp2_with fail
        refine (Hf.out _ (up_alloc hB _)).mono ?_
        rintro e w1 ⟨rfl, hb1⟩
        go_wp2
        go_ret
        exact ⟨ret_bool (all_false Hx.out Hp.out).symm, up_later (up_alloc hB _) hb1⟩
    · go_wp2
      go_ret
      exact ⟨ret_bool (by have h := hall.out; rw [List.take_of_length_le (by omega)] at h; exact h.symm), hB⟩
set_option maxRecDepth 100000 in
set_option maxHeartbeats 1000000 in
theorem every_agree (v : Value) (l : List Gs) (c c2 : Value) (p : Gs → Bool) (w : World) (hl : RowsAt w v 2 Gs.cells l)
    (hf : ∀ x ∈ l, ∀ w1, Below w.heap.size w w1 → Calls Try.prog 116 #[.agg #[iv x.a, iv x.p], c, c2] w1 fun e w2 => e = .returned (.bool (p x)) ∧ Below w1.heap.size w1 w2) :
    Calls Try.prog 106 #[v, .func (.func 116) #[] #[c, c2]] w fun e w' => e = .returned (.bool (l.all p)) ∧ Below w.heap.size w w' := by
  obtain ⟨hlen, A, cap, hv, hcap, hmax⟩ := hl.form
  subst hv
  clear hcap hmax
  go_enter Try.func106, Try.ntmps106
  go_wp2
  go_loopw [9] (fun i wr => ∃ k : Nat, k ≤ l.length ∧ i = .int .i64 k ∧ Hid ((l.take k).all p = true) ∧ Below w.heap.size w wr) (fun i _ => l.length - (intOf i).toNat)
  case atStart => exact ⟨0, by omega, rfl, by simp [Hid], Below.refl _ _⟩
  case round =>
    obtain ⟨k, hk, rfl, hall, hB⟩ := hrel
    by_cases hlt : k < l.length
    · obtain ⟨x, hx⟩ : ∃ x, l[k]? = some x := ⟨_, List.getElem?_eq_getElem hlt⟩
      obtain ⟨b, off, rfl, hb, hc⟩ := (hl.kept hB).at rfl hx
      have hcall := hf x (List.mem_of_getElem? hx)
      have Hx := Lib.hid hx
      clear hx
      have q0 : wr.cell? ⟨b, off + k * 2, none⟩ = some (.int .i64 x.a) := hc 0 _ rfl; have q1 : wr.cell? ⟨b, off + k * 2 + 1, none⟩ = some (.int .i64 x.p) := hc 1 _ rfl
      clear hc
      cases hp : p x with
      | true =>
        have Hp := Lib.hid hp
        rw [hp] at hcall
        clear hp
        have Hf := Lib.hid hcall
        clear hcall hf
        go_wp2_with fail
        refine (Hf.out _ (up_alloc hB _)).mono ?_
        rintro e w1 ⟨rfl, hb1⟩
        go_wp2
        go_roundw
        case rel => exact ⟨k + 1, by omega, by go_num, all_take_succ Hx.out hall.out Hp.out, up_later (up_alloc hB _) hb1⟩
        case measure => simp [intOf]; omega
      | false =>
        have Hp := Lib.hid hp
        rw [hp] at hcall
        clear hp
        have Hf := Lib.hid hcall
        clear hcall hf
        go_wp2_with fail
        refine (Hf.out _ (up_alloc hB _)).mono ?_
        rintro e w1 ⟨rfl, hb1⟩
        go_wp2
        go_ret
        exact ⟨ret_bool (all_false Hx.out Hp.out).symm, up_later (up_alloc hB _) hb1⟩
    · go_wp2
      go_ret
      exact ⟨ret_bool (by have h := hall.out; rw [List.take_of_length_le (by omega)] at h; exact h.symm), hB⟩

end Go.Proofs.Ytkhfkmfofhnmdaa
