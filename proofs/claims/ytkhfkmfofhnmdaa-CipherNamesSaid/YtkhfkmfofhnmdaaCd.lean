/-
  WALKS of isLoss, isGuess, least, isPrime. Conditions: those of the theorems' premises.
-/
import Derived.Test.YtkhfkmfofhnmdaaCc
namespace Go.Proofs.Ytkhfkmfofhnmdaa
open Go.RowKit

set_option maxHeartbeats 400000 in
theorem isLoss_any (s ws : Int) (A1 : Option Addr) (n1 c1 : Nat) (A2 : Option Addr) (n2 c2 : Nat) (k d : Int) (w : World) :
    Calls Try.prog 87 #[.agg #[iv s, iv ws, .slice A1 n1 c1, .slice A2 n2 c2], .agg #[iv k, iv d]] w fun r w' => r = .returned (.bool (belowB k n1 && belowB d n2)) ∧ Below w.heap.size w w' := by
  cases h1 : belowB k n1 with
  | false =>
    have hB : Below w.heap.size w w := up0
    go_enter Try.func87, Try.ntmps87
    go_wp2_with (go_at_call 85; refine (hasKey_any _ _ _ _ _ _ _ _).mono ?_; rintro e w1 ⟨rfl, hb1⟩; obtain ⟨hc1, hf1⟩ := bcell hb1; have hz9 := hb1.size; have hl9 : ∀ b, b < _ → b < w1.heap.size := (fun b h => Nat.lt_of_lt_of_le h hz9); have hz0 := hz9; clear hz9; (try simp at hz0); have hz1 : w.heap.size + 1 + 1 ≤ w1.heap.size := (by omega);  clear hz0; have hl0 : w.heap.size < w1.heap.size := (by omega); have hl1 : w.heap.size + 1 < w1.heap.size := (by omega); have hB : Below w.heap.size w w1 := up_later (by repeat (first | exact hB | refine up_alloc ?_ _ | refine up_drew ?_ | refine up_put ?_ (by simp; omega) _)) hb1)
    go_ret
    exact ⟨ret_bool (by simp [*]), (by repeat (first | exact hB | refine up_alloc ?_ _ | refine up_drew ?_ | refine up_put ?_ (by simp; omega) _))⟩
  | true =>
    have hB : Below w.heap.size w w := up0
    go_enter Try.func87, Try.ntmps87
    go_wp2_with (first | (go_at_call 85; refine (hasKey_any _ _ _ _ _ _ _ _).mono ?_; rintro e w1 ⟨rfl, hb1⟩; obtain ⟨hc1, hf1⟩ := bcell hb1; have hz9 := hb1.size; have hl9 : ∀ b, b < _ → b < w1.heap.size := (fun b h => Nat.lt_of_lt_of_le h hz9); have hz0 := hz9; clear hz9; (try simp at hz0); have hz1 : w.heap.size + 1 + 1 ≤ w1.heap.size := (by omega);  clear hz0; have hl0 : w.heap.size < w1.heap.size := (by omega); have hl1 : w.heap.size + 1 < w1.heap.size := (by omega); have hB : Below w.heap.size w w1 := up_later (by repeat (first | exact hB | refine up_alloc ?_ _ | refine up_drew ?_ | refine up_put ?_ (by simp; omega) _)) hb1) | (go_at_call 56; refine (hasDay_any _ _ _ _ _ _ _ _).mono ?_; rintro e w1 ⟨rfl, hb1⟩; obtain ⟨hc1, hf1⟩ := bcell hb1; have hz9 := hb1.size; have hl9 : ∀ b, b < _ → b < w1.heap.size := (fun b h => Nat.lt_of_lt_of_le h hz9); have hz0 := hz9; clear hz9; (try simp at hz0); have hz1 : w.heap.size + 1 + 1 ≤ w1.heap.size := (by omega);  clear hz0; have hl0 : w.heap.size < w1.heap.size := (by omega); have hl1 : w.heap.size + 1 < w1.heap.size := (by omega); have hB : Below w.heap.size w w1 := up_later (by repeat (first | exact hB | refine up_alloc ?_ _ | refine up_drew ?_ | refine up_put ?_ (by simp; omega) _)) hb1))
    go_ret
    exact ⟨ret_bool (by simp [*]), (by repeat (first | exact hB | refine up_alloc ?_ _ | refine up_drew ?_ | refine up_put ?_ (by simp; omega) _))⟩

set_option maxHeartbeats 400000 in
theorem isGuess_any (s ws : Int) (v1 v2 v3 : Value) (A4 : Option Addr) (n4 c4 : Nat) (v5 : Value) (a p : Int) (w : World) :
    Calls Try.prog 107 #[.agg #[iv s, iv ws, v1, v2, v3, .slice A4 n4 c4, v5], .agg #[iv a, iv p]] w fun r w' => r = .returned (.bool (belowB a n4 && belowB p s)) ∧ Below w.heap.size w w' := by
  cases h1 : belowB a n4 with
  | false =>
    have hB : Below w.heap.size w w := up0
    go_enter Try.func107, Try.ntmps107
    go_wp2_with (go_at_call 78; refine (hasCode_any _ _ _ _ _ _ _ _ _ _ _).mono ?_; rintro e w1 ⟨rfl, hb1⟩; obtain ⟨hc1, hf1⟩ := bcell hb1; have hz9 := hb1.size; have hl9 : ∀ b, b < _ → b < w1.heap.size := (fun b h => Nat.lt_of_lt_of_le h hz9); have hz0 := hz9; clear hz9; (try simp at hz0); have hz1 : w.heap.size + 1 + 1 ≤ w1.heap.size := (by omega);  clear hz0; have hl0 : w.heap.size < w1.heap.size := (by omega); have hl1 : w.heap.size + 1 < w1.heap.size := (by omega); have hB : Below w.heap.size w w1 := up_later (by repeat (first | exact hB | refine up_alloc ?_ _ | refine up_drew ?_ | refine up_put ?_ (by simp; omega) _)) hb1)
    go_ret
    exact ⟨ret_bool (by simp [*]), (by repeat (first | exact hB | refine up_alloc ?_ _ | refine up_drew ?_ | refine up_put ?_ (by simp; omega) _))⟩
  | true =>
    have hB : Below w.heap.size w w := up0
    go_enter Try.func107, Try.ntmps107
    go_wp2_with (first | (go_at_call 78; refine (hasCode_any _ _ _ _ _ _ _ _ _ _ _).mono ?_; rintro e w1 ⟨rfl, hb1⟩; obtain ⟨hc1, hf1⟩ := bcell hb1; have hz9 := hb1.size; have hl9 : ∀ b, b < _ → b < w1.heap.size := (fun b h => Nat.lt_of_lt_of_le h hz9); have hz0 := hz9; clear hz9; (try simp at hz0); have hz1 : w.heap.size + 1 + 1 ≤ w1.heap.size := (by omega);  clear hz0; have hl0 : w.heap.size < w1.heap.size := (by omega); have hl1 : w.heap.size + 1 < w1.heap.size := (by omega); have hB : Below w.heap.size w w1 := up_later (by repeat (first | exact hB | refine up_alloc ?_ _ | refine up_drew ?_ | refine up_put ?_ (by simp; omega) _)) hb1) | (go_at_call 58; refine (isPlain_any _ _ _ _ _ _).mono ?_; rintro e w1 ⟨rfl, hb1⟩; obtain ⟨hc1, hf1⟩ := bcell hb1; have hz9 := hb1.size; have hl9 : ∀ b, b < _ → b < w1.heap.size := (fun b h => Nat.lt_of_lt_of_le h hz9); have hz0 := hz9; clear hz9; (try simp at hz0); have hz1 : w.heap.size + 1 + 1 ≤ w1.heap.size := (by omega);  clear hz0; have hl0 : w.heap.size < w1.heap.size := (by omega); have hl1 : w.heap.size + 1 < w1.heap.size := (by omega); have hB : Below w.heap.size w w1 := up_later (by repeat (first | exact hB | refine up_alloc ?_ _ | refine up_drew ?_ | refine up_put ?_ (by simp; omega) _)) hb1))
    go_ret
    exact ⟨ret_bool (by simp [*]), (by repeat (first | exact hB | refine up_alloc ?_ _ | refine up_drew ?_ | refine up_put ?_ (by simp; omega) _))⟩

def leastI (n : Int) (l : List Int) : Int := l.foldl min n
theorem foldl_take {n : Int} {l : List Int} {k : Nat} {x : Int} (hx : l[k]? = some x) : leastI n (l.take (k + 1)) = min (leastI n (l.take k)) x := by
  unfold leastI
  rw [List.take_add_one, hx]
  simp

set_option maxRecDepth 100000 in
set_option maxHeartbeats 1000000 in
theorem least_any (n : Int) (v : Value) (l : List Int) (w : World) (hl : IntsAt w v l) :
    Calls Try.prog 113 #[iv n, v] w fun r w' => r = .returned (.int .i64 (leastI n l)) ∧ Below w.heap.size w w' := by
  obtain ⟨hlen, A, cap, hv, hcap, hmax⟩ := hl.form
  subst hv
  clear hcap hmax
  go_enter Try.func113, Try.ntmps113
  go_wp2
  go_loopw [0, 9] (fun m i wr => ∃ k : Nat, k ≤ l.length ∧ i = .int .i64 k ∧ m = .int .i64 (leastI n (l.take k)) ∧ Below w.heap.size w wr) (fun _ i _ => l.length - (intOf i).toNat)
  case atStart => exact ⟨0, by omega, rfl, rfl, Below.refl _ _⟩
  case round =>
    obtain ⟨k, hk, rfl, rfl, hB⟩ := hrel
    by_cases hlt : k < l.length
    · obtain ⟨x, hx⟩ : ∃ x, l[k]? = some x := ⟨_, List.getElem?_eq_getElem hlt⟩
      obtain ⟨b, off, rfl, hb, hc⟩ := (hl.kept hB).at rfl hx
      have Hx := Lib.hid hx
      clear hx
      have q0 : wr.cell? ⟨b, off + k, none⟩ = some (.int .i64 x) := by simpa using hc 0 _ rfl
      clear hc
      go_wp2
      go_roundw
      case rel => exact ⟨k + 1, by omega, by go_num, by rw [foldl_take Hx.out]; congr 1; split <;> omega, hB⟩
      case measure => simp [intOf]; omega
    · go_wp2
      go_ret
      exact ⟨by rw [List.take_of_length_le (by omega)]; rfl, hB⟩

def notBy (n d : Nat) : Bool := decide (d < 2) || decide (n % d ≠ 0)
theorem primeB_eq (n : Nat) : primeB n = (List.range n).all (notBy n) := rfl
theorem range_all_succ {p : Nat → Bool} {k : Nat} (h : (List.range k).all p = true) (hk : p k = true) : (List.range (k + 1)).all p = true := by
  rw [List.range_succ, List.all_append, h]
  simp [hk]
theorem range_all_no {p : Nat → Bool} {k n : Nat} (h : k < n) (hk : p k = false) : (List.range n).all p = false := by
  cases hq : (List.range n).all p with
  | false => rfl
  | true => rw [List.all_eq_true.1 hq k (List.mem_range.2 h)] at hk; cases hk

set_option maxRecDepth 100000 in
set_option maxHeartbeats 1000000 in
theorem isPrime_any (n : Nat) (w : World) (hn : n ≤ 1000) :
    Calls Try.prog 82 #[iv n] w fun r w' => r = .returned (.bool (primeB n)) ∧ Below w.heap.size w w' := by
  go_enter Try.func82, Try.ntmps82
  go_wp2_with fail
  go_step3
  go_wp2_with fail
  go_step3
  go_wp2_with fail
  go_loopw [3, 6] (fun p i wr => ∃ k : Nat, k ≤ n ∧ i = .int .i64 k ∧ p = .bool true ∧ Hid ((List.range k).all (notBy n) = true) ∧ Below w.heap.size w wr) (fun _ i _ => n - (intOf i).toNat)
  case atStart => exact ⟨0, by omega, rfl, rfl, by simp [Hid], Below.refl _ _⟩
  case round =>
    obtain ⟨k, hk, rfl, rfl, hall, hB⟩ := hrel
    by_cases hlt : k < n
    · by_cases h2 : k < 2
      · have h2' : (k : Int) < 2 := by omega
        go_wp2_with fail
        go_roundw
        case rel => exact ⟨k + 1, by omega, by go_num, rfl, range_all_succ hall.out (by simp [notBy, h2]), hB⟩
        case measure => simp [intOf]; omega
      · have h2' : ¬ (k : Int) < 2 := by omega
        have hz : ¬ (k : Int) = 0 := by omega
        have hz' : ((k : Int) == 0) = false := by rw [beq_eq_false_iff_ne]; omega
        by_cases hm : n % k = 0
        · have hm' : (n : Int) % (k : Int) = 0 := by omega
          have Hno := Lib.hid (range_all_no (p := notBy n) hlt (by simp [notBy, h2, hm]))
          clear hm
          go_wp2_with fail
          try rw [Exit.noGoto_ret]
          go_ret
          exact ⟨ret_bool (by rw [primeB_eq, Hno.out]), hB⟩
        · have hm' : ¬ (n : Int) % (k : Int) = 0 := by omega
          have Hyes := Lib.hid (show notBy n k = true by simp [notBy, hm])
          clear hm
          go_wp2_with fail
          go_roundw
          case rel => exact ⟨k + 1, by omega, by go_num, rfl, range_all_succ hall.out Hyes.out, hB⟩
          case measure => simp [intOf]; omega
    · go_wp2_with fail
      rw [Exit.noGoto_ret]
      go_ret
      exact ⟨ret_bool (by have h := hall.out; rw [show k = n by omega] at h; rw [primeB_eq, h]), hB⟩

end Go.Proofs.Ytkhfkmfofhnmdaa
