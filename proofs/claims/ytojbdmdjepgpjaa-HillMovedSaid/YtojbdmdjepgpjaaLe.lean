/-
  WALKS of '(Land).exceeds' and '(Land).valid'. Conditions: lists have at most 1000 elements.
-/
import Derived.Test.YtojbdmdjepgpjaaLd
namespace Go.Proofs.Ytojbdmdjepgpjaa
open Go.RowKit

theorem cs_len {L : Ld} {c : List (Value × List Cl)} (h : c.map (·.2) = L.cs) : c.length = L.cs.length := by rw [← h]; simp
theorem cs_any {L : Ld} {c : List (Value × List Cl)} (h : c.map (·.2) = L.cs) (p : List Cl → Bool) : (c.any fun x => p x.2) = L.cs.any p := by rw [← h]; simp [List.any_map]; rfl
theorem cs_all {L : Ld} {c : List (Value × List Cl)} (h : c.map (·.2) = L.cs) (p : List Cl → Bool) : (c.all fun x => p x.2) = L.cs.all p := by rw [← h]; simp [List.all_map]; rfl

set_option maxRecDepth 100000 in
set_option maxHeartbeats 2000000 in
theorem exceeds_any (v1 v2 v3 v4 : Value) (L : Ld) (c : List (Value × List Cl)) (w : World) (hL : LandAt w v1 v2 v3 v4 L c) :
    Calls Try.prog 43 #[.agg #[v1, v2, v3, v4]] w fun e w' => e = .returned (.bool (exB L)) ∧ Below w.heap.size w w' := by
  have hB : Below w.heap.size w w := up0
  have hL0 := hL
  obtain ⟨hn1, A1, cap1, rfl, _, _⟩ := hL.st.form
  obtain ⟨hn2, A2, cap2, rfl, _, _⟩ := hL.rg.form
  obtain ⟨hn3, A3, cap3, rfl, _, _⟩ := hL.cs.form
  obtain ⟨hn4, A4, cap4, rfl, _, _⟩ := hL.sn.form
  have hfin : exB L = (decide (6 < L.st.length) || decide (6 < L.rg.length) || decide (4 < c.length) || decide (12 < L.sn.length) || c.any fun x => decide (4 < x.2.length)) := by
    rw [cs_len hL.eq, cs_any hL.eq fun x => decide (4 < x.length)]
    rfl
  have Hfin := Lib.hid hfin
  clear hfin
  have HL := Lib.hid hL
  clear hL hL0
  by_cases h1 : 6 < L.st.length
  · go_enter Try.func43, Try.ntmps43
    go_wp2_with (go_at_call 67; refine (ContainsFunc_Case_any _ c _ (HL.out.kept (by repeat (first | exact hB | refine up_alloc ?_ _ | refine up_drew ?_ | refine up_put ?_ (by simp; omega) _))).cs (HL.out.kept (by repeat (first | exact hB | refine up_alloc ?_ _ | refine up_drew ?_ | refine up_put ?_ (by simp; omega) _))).each).mono ?_; rintro e w1 ⟨rfl, hb1⟩; obtain ⟨hc1, hf1⟩ := bcell hb1; have hz9 := hb1.size; have hl9 : ∀ b, b < _ → b < w1.heap.size := (fun b h => Nat.lt_of_lt_of_le h hz9); have hz0 := hz9; clear hz9; (try simp at hz0); have hz1 : w.heap.size + 1 ≤ w1.heap.size := (by omega);  clear hz0; have hl0 : w.heap.size < w1.heap.size := (by omega); have hB : Below w.heap.size w w1 := up_later (by repeat (first | exact hB | refine up_alloc ?_ _ | refine up_drew ?_ | refine up_put ?_ (by simp; omega) _)) hb1)
    go_ret
    exact ⟨ret_bool (by rw [Hfin.out]; simp [*] <;> omega), (by repeat (first | exact hB | refine up_alloc ?_ _ | refine up_drew ?_ | refine up_put ?_ (by simp; omega) _))⟩
  · by_cases h2 : 6 < L.rg.length
    · go_enter Try.func43, Try.ntmps43
      go_wp2_with (go_at_call 67; refine (ContainsFunc_Case_any _ c _ (HL.out.kept (by repeat (first | exact hB | refine up_alloc ?_ _ | refine up_drew ?_ | refine up_put ?_ (by simp; omega) _))).cs (HL.out.kept (by repeat (first | exact hB | refine up_alloc ?_ _ | refine up_drew ?_ | refine up_put ?_ (by simp; omega) _))).each).mono ?_; rintro e w1 ⟨rfl, hb1⟩; obtain ⟨hc1, hf1⟩ := bcell hb1; have hz9 := hb1.size; have hl9 : ∀ b, b < _ → b < w1.heap.size := (fun b h => Nat.lt_of_lt_of_le h hz9); have hz0 := hz9; clear hz9; (try simp at hz0); have hz1 : w.heap.size + 1 ≤ w1.heap.size := (by omega);  clear hz0; have hl0 : w.heap.size < w1.heap.size := (by omega); have hB : Below w.heap.size w w1 := up_later (by repeat (first | exact hB | refine up_alloc ?_ _ | refine up_drew ?_ | refine up_put ?_ (by simp; omega) _)) hb1)
      go_ret
      exact ⟨ret_bool (by rw [Hfin.out]; simp [*] <;> omega), (by repeat (first | exact hB | refine up_alloc ?_ _ | refine up_drew ?_ | refine up_put ?_ (by simp; omega) _))⟩
    · by_cases h3 : 4 < c.length
      · go_enter Try.func43, Try.ntmps43
        go_wp2_with (go_at_call 67; refine (ContainsFunc_Case_any _ c _ (HL.out.kept (by repeat (first | exact hB | refine up_alloc ?_ _ | refine up_drew ?_ | refine up_put ?_ (by simp; omega) _))).cs (HL.out.kept (by repeat (first | exact hB | refine up_alloc ?_ _ | refine up_drew ?_ | refine up_put ?_ (by simp; omega) _))).each).mono ?_; rintro e w1 ⟨rfl, hb1⟩; obtain ⟨hc1, hf1⟩ := bcell hb1; have hz9 := hb1.size; have hl9 : ∀ b, b < _ → b < w1.heap.size := (fun b h => Nat.lt_of_lt_of_le h hz9); have hz0 := hz9; clear hz9; (try simp at hz0); have hz1 : w.heap.size + 1 ≤ w1.heap.size := (by omega);  clear hz0; have hl0 : w.heap.size < w1.heap.size := (by omega); have hB : Below w.heap.size w w1 := up_later (by repeat (first | exact hB | refine up_alloc ?_ _ | refine up_drew ?_ | refine up_put ?_ (by simp; omega) _)) hb1)
        go_ret
        exact ⟨ret_bool (by rw [Hfin.out]; simp [*] <;> omega), (by repeat (first | exact hB | refine up_alloc ?_ _ | refine up_drew ?_ | refine up_put ?_ (by simp; omega) _))⟩
      · by_cases h4 : 12 < L.sn.length
        · go_enter Try.func43, Try.ntmps43
          go_wp2_with (go_at_call 67; refine (ContainsFunc_Case_any _ c _ (HL.out.kept (by repeat (first | exact hB | refine up_alloc ?_ _ | refine up_drew ?_ | refine up_put ?_ (by simp; omega) _))).cs (HL.out.kept (by repeat (first | exact hB | refine up_alloc ?_ _ | refine up_drew ?_ | refine up_put ?_ (by simp; omega) _))).each).mono ?_; rintro e w1 ⟨rfl, hb1⟩; obtain ⟨hc1, hf1⟩ := bcell hb1; have hz9 := hb1.size; have hl9 : ∀ b, b < _ → b < w1.heap.size := (fun b h => Nat.lt_of_lt_of_le h hz9); have hz0 := hz9; clear hz9; (try simp at hz0); have hz1 : w.heap.size + 1 ≤ w1.heap.size := (by omega);  clear hz0; have hl0 : w.heap.size < w1.heap.size := (by omega); have hB : Below w.heap.size w w1 := up_later (by repeat (first | exact hB | refine up_alloc ?_ _ | refine up_drew ?_ | refine up_put ?_ (by simp; omega) _)) hb1)
          go_ret
          exact ⟨ret_bool (by rw [Hfin.out]; simp [*] <;> omega), (by repeat (first | exact hB | refine up_alloc ?_ _ | refine up_drew ?_ | refine up_put ?_ (by simp; omega) _))⟩
        · cases h5 : (c.any fun x => decide (4 < x.2.length)) with
          | true =>
            go_enter Try.func43, Try.ntmps43
            go_wp2_with (go_at_call 67; refine (ContainsFunc_Case_any _ c _ (HL.out.kept (by repeat (first | exact hB | refine up_alloc ?_ _ | refine up_drew ?_ | refine up_put ?_ (by simp; omega) _))).cs (HL.out.kept (by repeat (first | exact hB | refine up_alloc ?_ _ | refine up_drew ?_ | refine up_put ?_ (by simp; omega) _))).each).mono ?_; rintro e w1 ⟨rfl, hb1⟩; obtain ⟨hc1, hf1⟩ := bcell hb1; have hz9 := hb1.size; have hl9 : ∀ b, b < _ → b < w1.heap.size := (fun b h => Nat.lt_of_lt_of_le h hz9); have hz0 := hz9; clear hz9; (try simp at hz0); have hz1 : w.heap.size + 1 ≤ w1.heap.size := (by omega);  clear hz0; have hl0 : w.heap.size < w1.heap.size := (by omega); have hB : Below w.heap.size w w1 := up_later (by repeat (first | exact hB | refine up_alloc ?_ _ | refine up_drew ?_ | refine up_put ?_ (by simp; omega) _)) hb1)
            go_ret
            exact ⟨ret_bool (by rw [Hfin.out]; simp [*] <;> omega), (by repeat (first | exact hB | refine up_alloc ?_ _ | refine up_drew ?_ | refine up_put ?_ (by simp; omega) _))⟩
          | false =>
            go_enter Try.func43, Try.ntmps43
            go_wp2_with (go_at_call 67; refine (ContainsFunc_Case_any _ c _ (HL.out.kept (by repeat (first | exact hB | refine up_alloc ?_ _ | refine up_drew ?_ | refine up_put ?_ (by simp; omega) _))).cs (HL.out.kept (by repeat (first | exact hB | refine up_alloc ?_ _ | refine up_drew ?_ | refine up_put ?_ (by simp; omega) _))).each).mono ?_; rintro e w1 ⟨rfl, hb1⟩; obtain ⟨hc1, hf1⟩ := bcell hb1; have hz9 := hb1.size; have hl9 : ∀ b, b < _ → b < w1.heap.size := (fun b h => Nat.lt_of_lt_of_le h hz9); have hz0 := hz9; clear hz9; (try simp at hz0); have hz1 : w.heap.size + 1 ≤ w1.heap.size := (by omega);  clear hz0; have hl0 : w.heap.size < w1.heap.size := (by omega); have hB : Below w.heap.size w w1 := up_later (by repeat (first | exact hB | refine up_alloc ?_ _ | refine up_drew ?_ | refine up_put ?_ (by simp; omega) _)) hb1)
            go_ret
            exact ⟨ret_bool (by rw [Hfin.out]; simp [*] <;> omega), (by repeat (first | exact hB | refine up_alloc ?_ _ | refine up_drew ?_ | refine up_put ?_ (by simp; omega) _))⟩


theorem cases_any (h : Int) (v : Value) (c : List (Value × List Cl)) (w : World) (hl : RowsAt w v 1 (fun x => [x.1]) c) (hin : ∀ x ∈ c, RowsAt w x.1 8 Cl.cells x.2) :
    Calls Try.prog 74 #[v, .func (.func 75) #[.agg #[.int .i64 0, .int .i64 100, .int .i64 0, .int .i64 1000, .int .i64 1, .int .i64 2, .int .i64 (-100), .int .i64 100, .int .i64 0, .int .i64 h]] #[]] w fun e w' => e = .returned (.bool (c.all fun x => x.2.all (clB h))) ∧ Below w.heap.size w w' :=
  every_Case_any v c (frameV h) (fun x => x.all (clB h)) w hl hin fun x hx w1 h1 => isCase_any h x.1 x.2 w1 ((hin x hx).kept h1)
theorem stations_any (h : Int) (v : Value) (l : List St) (w : World) (hl : RowsAt w v 4 St.cells l) :
    Calls Try.prog 69 #[v, .func (.func 70) #[.agg #[.int .i64 0, .int .i64 100, .int .i64 0, .int .i64 1000, .int .i64 1, .int .i64 2, .int .i64 (-100), .int .i64 100, .int .i64 0, .int .i64 h]] #[]] w fun e w' => e = .returned (.bool (l.all stB)) ∧ Below w.heap.size w w' :=
  every_Station_any v l (frameV h) stB w hl fun _ _ w1 _ => isStation_any h _ _ _ _ w1
theorem ridges_any (h : Int) (v : Value) (l : List Wl) (w : World) (hl : RowsAt w v 6 Wl.cells l) :
    Calls Try.prog 72 #[v, .func (.func 73) #[.agg #[.int .i64 0, .int .i64 100, .int .i64 0, .int .i64 1000, .int .i64 1, .int .i64 2, .int .i64 (-100), .int .i64 100, .int .i64 0, .int .i64 h]] #[]] w fun e w' => e = .returned (.bool (l.all rgB)) ∧ Below w.heap.size w w' :=
  every_Wall_any v l (frameV h) rgB w hl fun _ _ w1 _ => isRidge_any h _ _ _ _ _ _ w1
theorem suns_any (h : Int) (v : Value) (l : List Sn) (w : World) (hl : RowsAt w v 3 Sn.cells l) :
    Calls Try.prog 76 #[v, .func (.func 77) #[.agg #[.int .i64 0, .int .i64 100, .int .i64 0, .int .i64 1000, .int .i64 1, .int .i64 2, .int .i64 (-100), .int .i64 100, .int .i64 0, .int .i64 h]] #[]] w fun e w' => e = .returned (.bool (l.all snB)) ∧ Below w.heap.size w w' :=
  every_Sun_any v l (frameV h) snB w hl fun _ _ w1 _ => isSun_any h _ _ _ w1

end Go.Proofs.Ytojbdmdjepgpjaa
