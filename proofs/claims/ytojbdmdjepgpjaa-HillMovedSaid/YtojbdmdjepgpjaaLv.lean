/-
  WALKS of the checks of a ridge, a cloud, a case, a sun, and of a land's frame. Conditions: lists have at most 1000 elements.
-/
import Derived.Test.YtojbdmdjepgpjaaIw
namespace Go.Proofs.Ytojbdmdjepgpjaa
open Go.RowKit

set_option maxHeartbeats 1000000 in
theorem isRidge_any (h x1 y1 x2 y2 b t : Int) (w : World) :
    Calls Try.prog 73 #[frameV h, .agg #[.int .i64 x1, .int .i64 y1, .int .i64 x2, .int .i64 y2, .int .i64 b, .int .i64 t]] w fun e w' => e = .returned (.bool (rgB ⟨x1, y1, x2, y2, b, t⟩)) ∧ Below w.heap.size w w' := by
  have hW := fun w1 => isWall_any h x1 y1 x2 y2 b t w1
  unfold frameV at hW ⊢
  have HW := Lib.hid hW
  clear hW
  cases h1 : wlB ⟨x1, y1, x2, y2, b, t⟩ with
  | false =>
    have hB : Below w.heap.size w w := up0
    go_enter Try.func73, Try.ntmps73
    go_wp2_with (first | (go_at_call 95; refine (HW.out _).mono ?_; rintro e w1 ⟨rfl, hb1⟩; obtain ⟨hc1, hf1⟩ := bcell hb1; have hz9 := hb1.size; have hl9 : ∀ b, b < _ → b < w1.heap.size := (fun b h => Nat.lt_of_lt_of_le h hz9); have hz0 := hz9; clear hz9; (try simp at hz0); have hz1 : w.heap.size + 1 + 1 ≤ w1.heap.size := (by omega);  clear hz0; have hl0 : w.heap.size < w1.heap.size := (by omega); have hl1 : w.heap.size + 1 < w1.heap.size := (by omega); have hB : Below w.heap.size w w1 := up_later (by repeat (first | exact hB | refine up_alloc ?_ _ | refine up_drew ?_ | refine up_put ?_ (by simp; omega) _)) hb1))
    go_ret
    exact ⟨ret_bool (by simp [rgB, *]), hB⟩
  | true =>
    cases h2 : (b == 0) with
    | false =>
      have hB : Below w.heap.size w w := up0
      go_enter Try.func73, Try.ntmps73
      go_wp2_with (first | (go_at_call 95; refine (HW.out _).mono ?_; rintro e w1 ⟨rfl, hb1⟩; obtain ⟨hc1, hf1⟩ := bcell hb1; have hz9 := hb1.size; have hl9 : ∀ b, b < _ → b < w1.heap.size := (fun b h => Nat.lt_of_lt_of_le h hz9); have hz0 := hz9; clear hz9; (try simp at hz0); have hz1 : w.heap.size + 1 + 1 ≤ w1.heap.size := (by omega);  clear hz0; have hl0 : w.heap.size < w1.heap.size := (by omega); have hl1 : w.heap.size + 1 < w1.heap.size := (by omega); have hB : Below w.heap.size w w1 := up_later (by repeat (first | exact hB | refine up_alloc ?_ _ | refine up_drew ?_ | refine up_put ?_ (by simp; omega) _)) hb1))
      go_ret
      exact ⟨ret_bool (by simp [rgB, *]), hB⟩
    | true =>
      have hB : Below w.heap.size w w := up0
      go_enter Try.func73, Try.ntmps73
      go_wp2_with (first | (go_at_call 95; refine (HW.out _).mono ?_; rintro e w1 ⟨rfl, hb1⟩; obtain ⟨hc1, hf1⟩ := bcell hb1; have hz9 := hb1.size; have hl9 : ∀ b, b < _ → b < w1.heap.size := (fun b h => Nat.lt_of_lt_of_le h hz9); have hz0 := hz9; clear hz9; (try simp at hz0); have hz1 : w.heap.size + 1 + 1 ≤ w1.heap.size := (by omega);  clear hz0; have hl0 : w.heap.size < w1.heap.size := (by omega); have hl1 : w.heap.size + 1 < w1.heap.size := (by omega); have hB : Below w.heap.size w w1 := up_later (by repeat (first | exact hB | refine up_alloc ?_ _ | refine up_drew ?_ | refine up_put ?_ (by simp; omega) _)) hb1))
      go_ret
      exact ⟨ret_bool (by simp [rgB, *]), hB⟩

set_option maxHeartbeats 1000000 in
theorem isCloud_any (h x1 y1 x2 y2 b t f u : Int) (w : World) :
    Calls Try.prog 97 #[frameV h, .agg #[.int .i64 x1, .int .i64 y1, .int .i64 x2, .int .i64 y2, .int .i64 b, .int .i64 t, .int .i64 f, .int .i64 u]] w fun e w' => e = .returned (.bool (clB h ⟨⟨x1, y1, x2, y2, b, t⟩, f, u⟩)) ∧ Below w.heap.size w w' := by
  have hW := fun w1 => isWall_any h x1 y1 x2 y2 b t w1
  unfold frameV at hW ⊢
  have HW := Lib.hid hW
  clear hW
  cases h1 : wlB ⟨x1, y1, x2, y2, b, t⟩ with
  | false =>
    have hB : Below w.heap.size w w := up0
    go_enter Try.func97, Try.ntmps97
    go_wp2_with (first | (go_at_call 95; refine (HW.out _).mono ?_; rintro e w1 ⟨rfl, hb1⟩; obtain ⟨hc1, hf1⟩ := bcell hb1; have hz9 := hb1.size; have hl9 : ∀ b, b < _ → b < w1.heap.size := (fun b h => Nat.lt_of_lt_of_le h hz9); have hz0 := hz9; clear hz9; (try simp at hz0); have hz1 : w.heap.size + 1 + 1 ≤ w1.heap.size := (by omega);  clear hz0; have hl0 : w.heap.size < w1.heap.size := (by omega); have hl1 : w.heap.size + 1 < w1.heap.size := (by omega); have hB : Below w.heap.size w w1 := up_later (by repeat (first | exact hB | refine up_alloc ?_ _ | refine up_drew ?_ | refine up_put ?_ (by simp; omega) _)) hb1) | (go_at_call 78; refine (hasB_any _ _ _ _).mono ?_; rintro e w1 ⟨rfl, hb1⟩; obtain ⟨hc1, hf1⟩ := bcell hb1; have hz9 := hb1.size; have hl9 : ∀ b, b < _ → b < w1.heap.size := (fun b h => Nat.lt_of_lt_of_le h hz9); have hz0 := hz9; clear hz9; (try simp at hz0); have hz1 : w.heap.size + 1 + 1 ≤ w1.heap.size := (by omega);  clear hz0; have hl0 : w.heap.size < w1.heap.size := (by omega); have hl1 : w.heap.size + 1 < w1.heap.size := (by omega); have hB : Below w.heap.size w w1 := up_later (by repeat (first | exact hB | refine up_alloc ?_ _ | refine up_drew ?_ | refine up_put ?_ (by simp; omega) _)) hb1))
    go_ret
    exact ⟨ret_bool (by simp [clB, *]), hB⟩
  | true =>
    cases h2 : inB 0 h f with
    | false =>
      have hB : Below w.heap.size w w := up0
      go_enter Try.func97, Try.ntmps97
      go_wp2_with (first | (go_at_call 95; refine (HW.out _).mono ?_; rintro e w1 ⟨rfl, hb1⟩; obtain ⟨hc1, hf1⟩ := bcell hb1; have hz9 := hb1.size; have hl9 : ∀ b, b < _ → b < w1.heap.size := (fun b h => Nat.lt_of_lt_of_le h hz9); have hz0 := hz9; clear hz9; (try simp at hz0); have hz1 : w.heap.size + 1 + 1 ≤ w1.heap.size := (by omega);  clear hz0; have hl0 : w.heap.size < w1.heap.size := (by omega); have hl1 : w.heap.size + 1 < w1.heap.size := (by omega); have hB : Below w.heap.size w w1 := up_later (by repeat (first | exact hB | refine up_alloc ?_ _ | refine up_drew ?_ | refine up_put ?_ (by simp; omega) _)) hb1) | (go_at_call 78; refine (hasB_any _ _ _ _).mono ?_; rintro e w1 ⟨rfl, hb1⟩; obtain ⟨hc1, hf1⟩ := bcell hb1; have hz9 := hb1.size; have hl9 : ∀ b, b < _ → b < w1.heap.size := (fun b h => Nat.lt_of_lt_of_le h hz9); have hz0 := hz9; clear hz9; (try simp at hz0); have hz1 : w.heap.size + 1 + 1 ≤ w1.heap.size := (by omega);  clear hz0; have hl0 : w.heap.size < w1.heap.size := (by omega); have hl1 : w.heap.size + 1 < w1.heap.size := (by omega); have hB : Below w.heap.size w w1 := up_later (by repeat (first | exact hB | refine up_alloc ?_ _ | refine up_drew ?_ | refine up_put ?_ (by simp; omega) _)) hb1))
      go_ret
      exact ⟨ret_bool (by simp [clB, *]), hB⟩
    | true =>
      cases h3 : inB 0 h u with
      | false =>
        have hB : Below w.heap.size w w := up0
        go_enter Try.func97, Try.ntmps97
        go_wp2_with (first | (go_at_call 95; refine (HW.out _).mono ?_; rintro e w1 ⟨rfl, hb1⟩; obtain ⟨hc1, hf1⟩ := bcell hb1; have hz9 := hb1.size; have hl9 : ∀ b, b < _ → b < w1.heap.size := (fun b h => Nat.lt_of_lt_of_le h hz9); have hz0 := hz9; clear hz9; (try simp at hz0); have hz1 : w.heap.size + 1 + 1 ≤ w1.heap.size := (by omega);  clear hz0; have hl0 : w.heap.size < w1.heap.size := (by omega); have hl1 : w.heap.size + 1 < w1.heap.size := (by omega); have hB : Below w.heap.size w w1 := up_later (by repeat (first | exact hB | refine up_alloc ?_ _ | refine up_drew ?_ | refine up_put ?_ (by simp; omega) _)) hb1) | (go_at_call 78; refine (hasB_any _ _ _ _).mono ?_; rintro e w1 ⟨rfl, hb1⟩; obtain ⟨hc1, hf1⟩ := bcell hb1; have hz9 := hb1.size; have hl9 : ∀ b, b < _ → b < w1.heap.size := (fun b h => Nat.lt_of_lt_of_le h hz9); have hz0 := hz9; clear hz9; (try simp at hz0); have hz1 : w.heap.size + 1 + 1 ≤ w1.heap.size := (by omega);  clear hz0; have hl0 : w.heap.size < w1.heap.size := (by omega); have hl1 : w.heap.size + 1 < w1.heap.size := (by omega); have hB : Below w.heap.size w w1 := up_later (by repeat (first | exact hB | refine up_alloc ?_ _ | refine up_drew ?_ | refine up_put ?_ (by simp; omega) _)) hb1))
        go_ret
        exact ⟨ret_bool (by simp [clB, *]), hB⟩
      | true =>
        have hB : Below w.heap.size w w := up0
        go_enter Try.func97, Try.ntmps97
        go_wp2_with (first | (go_at_call 95; refine (HW.out _).mono ?_; rintro e w1 ⟨rfl, hb1⟩; obtain ⟨hc1, hf1⟩ := bcell hb1; have hz9 := hb1.size; have hl9 : ∀ b, b < _ → b < w1.heap.size := (fun b h => Nat.lt_of_lt_of_le h hz9); have hz0 := hz9; clear hz9; (try simp at hz0); have hz1 : w.heap.size + 1 + 1 ≤ w1.heap.size := (by omega);  clear hz0; have hl0 : w.heap.size < w1.heap.size := (by omega); have hl1 : w.heap.size + 1 < w1.heap.size := (by omega); have hB : Below w.heap.size w w1 := up_later (by repeat (first | exact hB | refine up_alloc ?_ _ | refine up_drew ?_ | refine up_put ?_ (by simp; omega) _)) hb1) | (go_at_call 78; refine (hasB_any _ _ _ _).mono ?_; rintro e w1 ⟨rfl, hb1⟩; obtain ⟨hc1, hf1⟩ := bcell hb1; have hz9 := hb1.size; have hl9 : ∀ b, b < _ → b < w1.heap.size := (fun b h => Nat.lt_of_lt_of_le h hz9); have hz0 := hz9; clear hz9; (try simp at hz0); have hz1 : w.heap.size + 1 + 1 ≤ w1.heap.size := (by omega);  clear hz0; have hl0 : w.heap.size < w1.heap.size := (by omega); have hl1 : w.heap.size + 1 < w1.heap.size := (by omega); have hB : Below w.heap.size w w1 := up_later (by repeat (first | exact hB | refine up_alloc ?_ _ | refine up_drew ?_ | refine up_put ?_ (by simp; omega) _)) hb1))
        go_ret
        exact ⟨ret_bool (by simp [clB, *]), hB⟩

set_option maxHeartbeats 1000000 in
theorem isCase_any (h : Int) (v : Value) (l : List Cl) (w : World) (hl : RowsAt w v 8 Cl.cells l) :
    Calls Try.prog 75 #[frameV h, v] w fun e w' => e = .returned (.bool (l.all (clB h))) ∧ Below w.heap.size w w' := by
  have hE := every_Cloud_any v l (frameV h) (clB h) (w.alloc (.cells #[iv 0, iv 100, iv 0, iv 1000, iv 1, iv 2, iv (-100), iv 100, iv 0, iv h] 121)) (hl.kept (up_alloc up0 _)) (fun x _ w1 _ => isCloud_any h _ _ _ _ _ _ _ _ w1)
  unfold frameV at hE ⊢
  obtain ⟨_, A, cap, rfl, _, _⟩ := hl.form
  have HE := Lib.hid hE
  clear hE
  go_enter Try.func75, Try.ntmps75
  go_wp2_with (go_at_call 96; refine HE.out.mono ?_; rintro e w1 ⟨rfl, hb1⟩)
  go_ret
  exact ⟨rfl, up_later (up_alloc up0 _) hb1⟩

set_option maxHeartbeats 1000000 in
theorem frame_any (A1 A2 A3 A4 : Option Addr) (n1 n2 n3 n4 c1 c2 c3 c4 : Nat) (w : World) (h4 : n4 ≤ 1000) :
    Calls Try.prog 68 #[.agg #[.slice A1 n1 c1, .slice A2 n2 c2, .slice A3 n3 c3, .slice A4 n4 c4]] w fun e w' => e = .returned (.agg #[.int .i64 0, .int .i64 100, .int .i64 0, .int .i64 1000, .int .i64 1, .int .i64 2, .int .i64 (-100), .int .i64 100, .int .i64 0, .int .i64 ((n4 : Int) - 1)]) ∧ Below w.heap.size w w' := by
  go_enter Try.func68, Try.ntmps68
  go_wp2
  refine bodyPost_ret (v := .agg #[iv 0, iv 100, iv 0, iv 1000, iv 1, iv 2, iv (-100), iv 100, iv 0, iv ((n4 : Int) - 1)]) (by simp [results, Try.results68, go_sem]) rfl ⟨rfl, ?_⟩
  exact up_alloc (up_alloc up0 _) _

set_option maxHeartbeats 1000000 in
theorem isSun_any (h e n u : Int) (w : World) :
    Calls Try.prog 77 #[frameV h, .agg #[.int .i64 e, .int .i64 n, .int .i64 u]] w fun r w' => r = .returned (.bool (snB ⟨e, n, u⟩)) ∧ Below w.heap.size w w' := by
  have hfin : snB ⟨e, n, u⟩ = [e, n, u].all (inB (-100) 100) := by simp [snB, Bool.and_assoc]
  have Hfin := Lib.hid hfin
  clear hfin
  unfold frameV
  have hE := every_int_any (.slice (some ⟨w.heap.size + 1 + 1, 0, none⟩) 3 3) [e, n, u] (-100) 100 (((w.alloc (.cells #[iv 0, iv 100, iv 0, iv 1000, iv 1, iv 2, iv (-100), iv 100, iv 0, iv h] 121)).alloc (.cells #[iv e, iv n, iv u] 91)).alloc (.cells #[iv e, iv n, iv u] 3))
    ⟨by simp, _, 3, rfl, by simp, by omega, fun _ => ⟨w.heap.size + 1 + 1, 0, rfl, by simp, fun i x hx j y hy => by
      have hj : j = 0 := by rcases j with _ | j <;> simp at hy ⊢
      subst hj
      have hb := (Box.new (w := (w.alloc (.cells #[iv 0, iv 100, iv 0, iv 1000, iv 1, iv 2, iv (-100), iv 100, iv 0, iv h] 121)).alloc (.cells #[iv e, iv n, iv u] 91)) (g := w.heap.size + 1 + 1) (t := 3) (cs := #[iv e, iv n, iv u]) (by simp)).cell i
      simp only [Nat.mul_one, Nat.add_zero, Nat.zero_add]
      rw [hb]
      have hy' : iv x = y := by simpa using hy
      subst hy'
      rcases i with _ | _ | _ | i <;> simp at hx ⊢ <;> simp [hx]⟩⟩
  have HE := Lib.hid hE
  clear hE
  go_enter Try.func77, Try.ntmps77
  go_wp2_with (go_at_call 79; refine HE.out.mono ?_; rintro r w1 ⟨rfl, hb1⟩)
  go_ret
  exact ⟨ret_bool (by rw [Hfin.out]; simp), up_later (up_alloc (up_alloc (up_alloc up0 _) _) _) hb1⟩

set_option maxHeartbeats 1000000 in
theorem ContainsFunc_Case_any (v : Value) (l : List (Value × List Cl)) (w : World) (hl : RowsAt w v 1 (fun x => [x.1]) l) (hin : ∀ x ∈ l, RowsAt w x.1 8 Cl.cells x.2) :
    Calls Try.prog 67 #[v, .func (.func 66) #[] #[]] w fun e w' => e = .returned (.bool (l.any fun x => decide (4 < x.2.length))) ∧ Below w.heap.size w w' := by
  have H := Lib.hid (IndexFunc_Case_any v l w hl hin)
  obtain ⟨_, A, cap, rfl, _, _⟩ := hl.form
  go_enter Try.func67, Try.ntmps67
  go_wp2_with (go_at_call 93; refine H.out.mono ?_; rintro e w1 ⟨i, rfl, hi, hi1, hi2, hb1⟩; have Hi := Lib.hid hi; clear hi)
  go_ret
  exact ⟨ret_bool Hi.out, hb1⟩

end Go.Proofs.Ytojbdmdjepgpjaa
