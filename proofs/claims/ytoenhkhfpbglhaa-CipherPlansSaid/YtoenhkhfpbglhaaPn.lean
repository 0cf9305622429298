/-
  CipherPlans holds: the best plan, and whether a plan is right and has few enough changes, are as the reference says, or the error is. No condition.
-/
import Derived.Test.YtoenhkhfpbglhaaEn
import Derived.Test.YtoenhkhfpbglhaaDe
import Derived.Test.YtoenhkhfpbglhaaDj
import Derived.Test.YtoenhkhfpbglhaaDr
namespace Go.Proofs.Ytoenhkhfpbglhaa
open Go.RowKit Go.Shelf

/-- The lowest digits of a number, the highest of them first. -/
def low (K : Nat) : Nat → Nat → List Int
  | 0, _ => []
  | d + 1, i => ((i / K ^ d % K : Nat) : Int) :: low K d i
def valL (K : Nat) : List Int → Nat
  | [] => 0
  | x :: l => x.toNat * K ^ l.length + valL K l
theorem low_len (K : Nat) : ∀ (d i : Nat), (low K d i).length = d
  | 0, _ => rfl
  | d + 1, i => by rw [low, List.length_cons, low_len K d i]
theorem low_in {K : Nat} (hK : 0 < K) : ∀ (d i : Nat), ∀ x ∈ low K d i, 0 ≤ x ∧ x < K
  | 0, _, x, h => by simp [low] at h
  | d + 1, i, x, h => by
    rcases List.mem_cons.1 h with rfl | h
    · have := Nat.mod_lt (i / K ^ d) hK
      omega
    · exact low_in hK d i x h
theorem val_low (K : Nat) : ∀ (d i : Nat), valL K (low K d i) = i % K ^ d
  | 0, i => by simp [low, valL, Nat.mod_one]
  | d + 1, i => by
    rw [low, valL, low_len, val_low K d i, Int.toNat_natCast, Nat.pow_succ, Nat.mod_mul]
    rw [Nat.mul_comm (K ^ d)]
    omega
def digL (K : Nat) (l : List Int) : Prop := ∀ x ∈ l, 0 ≤ x ∧ x < K
theorem val_lt {K : Nat} : ∀ (l : List Int), digL K l → valL K l < K ^ l.length
  | [], _ => by simp [valL]
  | x :: l, h => by
    have ih := val_lt l fun y hy => h y (List.mem_cons_of_mem _ hy)
    have hx := h x (List.mem_cons_self ..)
    have h1 : x.toNat + 1 ≤ K := by omega
    have h2 := Nat.mul_le_mul_right (K ^ l.length) h1
    rw [valL, List.length_cons, Nat.pow_succ, Nat.mul_comm (K ^ l.length)]
    rw [Nat.add_mul] at h2
    omega
theorem val_before {K : Nat} : ∀ (a b : List Int), a.length = b.length → digL K a → digL K b → valL K a < valL K b → beforeB a b = true
  | [], [], _, _, _, h => by simp [valL] at h
  | [], _ :: _, h, _, _, _ => by simp at h
  | _ :: _, [], h, _, _, _ => by simp at h
  | x :: a, y :: b, hl, ha, hb, h => by
    have hx := ha x (List.mem_cons_self ..)
    have hy := hb y (List.mem_cons_self ..)
    have hl' : a.length = b.length := by simpa using hl
    have va := val_lt a fun z hz => ha z (List.mem_cons_of_mem _ hz)
    have vb := val_lt b fun z hz => hb z (List.mem_cons_of_mem _ hz)
    rw [valL, valL, hl'] at h
    rw [hl'] at va
    rw [beforeB]
    by_cases e : x = y
    · rw [if_pos e]
      subst e
      exact val_before a b hl' (fun z hz => ha z (List.mem_cons_of_mem _ hz)) (fun z hz => hb z (List.mem_cons_of_mem _ hz)) (by omega)
    · rw [if_neg e, decide_eq_true_iff]
      rcases Int.lt_or_lt_of_ne e with h1 | h1
      · exact h1
      · exfalso
        have h2 : y.toNat + 1 ≤ x.toNat := by omega
        have h3 := Nat.mul_le_mul_right (K ^ b.length) h2
        rw [Nat.add_mul] at h3
        omega
theorem before_self : ∀ l : List Int, beforeB l l = false
  | [] => rfl
  | x :: l => by rw [beforeB, if_pos rfl]; exact before_self l
theorem val_inj {K : Nat} : ∀ (a b : List Int), a.length = b.length → digL K a → digL K b → valL K a = valL K b → a = b
  | [], [], _, _, _, _ => rfl
  | [], _ :: _, h, _, _, _ => by simp at h
  | _ :: _, [], h, _, _, _ => by simp at h
  | x :: a, y :: b, hl, ha, hb, h => by
    have hx := ha x (List.mem_cons_self ..)
    have hy := hb y (List.mem_cons_self ..)
    have hl' : a.length = b.length := by simpa using hl
    have va := val_lt a fun z hz => ha z (List.mem_cons_of_mem _ hz)
    have vb := val_lt b fun z hz => hb z (List.mem_cons_of_mem _ hz)
    rw [valL, valL, hl'] at h
    rw [hl'] at va
    have e : x.toNat = y.toNat := by
      rcases Nat.lt_trichotomy x.toNat y.toNat with h1 | h1 | h1
      · exfalso
        have h3 := Nat.mul_le_mul_right (K ^ b.length) (show x.toNat + 1 ≤ y.toNat by omega)
        rw [Nat.add_mul] at h3
        omega
      · exact h1
      · exfalso
        have h3 := Nat.mul_le_mul_right (K ^ b.length) (show y.toNat + 1 ≤ x.toNat by omega)
        rw [Nat.add_mul] at h3
        omega
    rw [e] at h
    rw [val_inj a b hl' (fun z hz => ha z (List.mem_cons_of_mem _ hz)) (fun z hz => hb z (List.mem_cons_of_mem _ hz)) (by omega), show x = y by omega]
theorem low_val {K : Nat} (hK : 0 < K) {l : List Int} (h : digL K l) : low K l.length (valL K l) = l :=
  val_inj _ _ (low_len _ _ _) (low_in hK _ _) h (by rw [val_low]; exact Nat.mod_eq_of_lt (val_lt l h))

/-- The best of the first plans, and whether there is one. -/
def bestN (b : Bk) (ls : List Ls) (most : Int) : Nat → List Int × Bool
  | 0 => ([], false)
  | n + 1 => if (!(bestN b ls most n).2 || decide (chL (-1) (low b.ks.length b.ds.length n) < chL (-1) (bestN b ls most n).1)) && rightB b ls most (low b.ks.length b.ds.length n) then (low b.ks.length b.ds.length n, true) else bestN b ls most n
theorem bestN_inv (b : Bk) (ls : List Ls) (most : Int) : ∀ n : Nat,
    ((bestN b ls most n) = ([], false) ∧ ∀ i, i < n → rightB b ls most (low b.ks.length b.ds.length i) = false) ∨
    ∃ k, k < n ∧ bestN b ls most n = (low b.ks.length b.ds.length k, true) ∧ rightB b ls most (low b.ks.length b.ds.length k) = true ∧
      (∀ i, i < k → rightB b ls most (low b.ks.length b.ds.length i) = true → chL (-1) (low b.ks.length b.ds.length k) < chL (-1) (low b.ks.length b.ds.length i)) ∧
      ∀ i, i < n → rightB b ls most (low b.ks.length b.ds.length i) = true → chL (-1) (low b.ks.length b.ds.length k) ≤ chL (-1) (low b.ks.length b.ds.length i)
  | 0 => .inl ⟨rfl, fun i h => by omega⟩
  | n + 1 => by
    rw [bestN]
    rcases bestN_inv b ls most n with ⟨h1, h2⟩ | ⟨k, h1, h2, h3, h4, h5⟩
    · rw [h1]
      simp only [Bool.not_false, Bool.true_or, Bool.true_and]
      cases hr : rightB b ls most (low b.ks.length b.ds.length n) with
      | true =>
        rw [if_pos rfl]
        refine .inr ⟨n, by omega, rfl, hr, fun i hi h => ?_, fun i hi h => ?_⟩
        · rw [h2 i hi] at h; cases h
        · rcases Nat.lt_or_ge i n with h6 | h6
          · rw [h2 i h6] at h; cases h
          · have : i = n := by omega
            subst this; omega
      | false =>
        rw [if_neg (by simp)]
        refine .inl ⟨rfl, fun i hi => ?_⟩
        rcases Nat.lt_or_ge i n with h6 | h6
        · exact h2 i h6
        · have : i = n := by omega
          subst this; exact hr
    · rw [h2]
      simp only [Bool.not_true, Bool.false_or]
      by_cases hc : (decide (chL (-1) (low b.ks.length b.ds.length n) < chL (-1) (low b.ks.length b.ds.length k)) && rightB b ls most (low b.ks.length b.ds.length n)) = true
      · rw [if_pos hc]
        simp only [Bool.and_eq_true, decide_eq_true_eq] at hc
        refine .inr ⟨n, by omega, rfl, hc.2, fun i hi h => ?_, fun i hi h => ?_⟩
        · have := h5 i hi h; omega
        · rcases Nat.lt_or_ge i n with h6 | h6
          · have := h5 i h6 h; omega
          · have : i = n := by omega
            subst this; omega
      · rw [if_neg hc]
        refine .inr ⟨k, by omega, rfl, h3, h4, fun i hi h => ?_⟩
        rcases Nat.lt_or_ge i n with h6 | h6
        · exact h5 i h6 h
        · have : i = n := by omega
          subst this
          simp only [Bool.and_eq_true, decide_eq_true_eq, not_and] at hc
          rcases Int.lt_or_le (chL (-1) (low b.ks.length b.ds.length i)) (chL (-1) (low b.ks.length b.ds.length k)) with h7 | h7
          · exact absurd h (hc h7)
          · exact h7
/-- All plans have been gone through. -/
theorem bestN_all {b : Bk} {ls : List Ls} {most : Int} (hok : BookOK b) (h0 : 0 ≤ most) :
    bestN b ls most (b.ks.length ^ b.ds.length) = if (bestI b ls most).2 = 8 then ([], false) else ((bestI b ls most).1, true) := by
  have hall : ∀ l, rightB b ls most l = true → ∃ i, i < b.ks.length ^ b.ds.length ∧ low b.ks.length b.ds.length i = l := fun l h => by
    have h' := h
    simp only [rightB, okB, Bool.and_eq_true, decide_eq_true_eq] at h'
    have hd : digL b.ks.length l := fun x hx => belowB_iff.1 (List.all_eq_true.1 h'.2.1 x hx)
    refine ⟨valL b.ks.length l, by rw [← h'.1]; exact val_lt l hd, ?_⟩
    rw [← h'.1]
    exact low_val hok.k1 hd
  rcases bestN_inv b ls most (b.ks.length ^ b.ds.length) with ⟨h1, h2⟩ | ⟨k, h1, h2, h3, h4, h5⟩
  · rw [h1]
    by_cases c8 : (bestI b ls most).2 = 8
    · rw [if_pos c8]
    · exfalso
      obtain ⟨r1, _, _⟩ := best_right hok h0 c8
      obtain ⟨i, hi, e⟩ := hall _ r1
      have := h2 i hi
      rw [e, r1] at this
      cases this
  · rw [h2]
    have hb := best_holds hok h0 h3
    have c8 : (bestI b ls most).2 ≠ 8 := by omega
    rw [if_neg c8]
    obtain ⟨r1, r2, _⟩ := best_right hok h0 c8
    obtain ⟨i, hi, e⟩ := hall _ r1
    have hle := h5 i hi (by rw [e]; exact r1)
    rw [e, r2] at hle
    have hbf := hb.2.2 hle
    have hki : k = i := by
      rcases Nat.lt_trichotomy k i with h | h | h
      · exfalso
        have := val_before (K := b.ks.length) (low b.ks.length b.ds.length k) (low b.ks.length b.ds.length i) (by rw [low_len, low_len]) (low_in hok.k1 _ _) (low_in hok.k1 _ _) (by rw [val_low, val_low, Nat.mod_eq_of_lt h1, Nat.mod_eq_of_lt hi]; exact h)
        rw [e, hbf] at this
        cases this
      · exact h
      · exfalso
        have := h4 i h (by rw [e]; exact r1)
        rw [e, r2] at this
        have := hb.2.1
        omega
    rw [hki, e]
end Go.Proofs.Ytoenhkhfpbglhaa

namespace Go.Proofs.Ytoenhkhfpbglhaa
open Go.RowKit Go.Shelf
attribute [local go_sem] Oper.semAt_some

theorem pow_in {K d : Nat} (hK : K ≤ 5) (hd : d ≤ 8) : K ^ d ≤ 390625 := by
  have h1 : K ^ d ≤ 5 ^ d := Nat.pow_le_pow_left hK d
  have h2 : 5 ^ d ≤ 5 ^ 8 := Nat.pow_le_pow_right (by omega) hd
  have : (5 : Nat) ^ 8 = 390625 := by decide
  omega
set_option maxRecDepth 100000 in
set_option maxHeartbeats 1000000 in
theorem RMany_any (v1 v2 : Value) (b : Bk) (w : World) (hL : BookAt w v1 v2 b) (hk5 : b.ks.length ≤ 5) (hd8 : b.ds.length ≤ 8) :
    Calls Try.prog 34 #[.agg #[iv b.n, iv b.w, v1, v2]] w fun r w' => r = .returned (iv ((b.ks.length ^ b.ds.length : Nat) : Int)) ∧ Below w.heap.size w w' := by
  obtain ⟨R, hR⟩ : ∃ R, b.ks.length ^ b.ds.length = R := ⟨_, rfl⟩
  rw [hR]
  have HR := Lib.hid hR
  clear hR
  obtain ⟨_, A1, cap1, rfl, _, _⟩ := hL.ks.form
  obtain ⟨_, A2, cap2, rfl, _, _⟩ := hL.ds.form
  clear hL
  have N0 := Lib.hid (Box.new (w := w) (t := 25) (cs := #[iv b.n, iv b.w, .slice A1 b.ks.length cap1, .slice A2 b.ds.length cap2]) rfl)
  have HB0 := Lib.hid (up_alloc (up0 (w := w)) (.cells #[iv b.n, iv b.w, .slice A1 b.ks.length cap1, .slice A2 b.ds.length cap2] 25))
  go_enter Try.func34, Try.ntmps34
  go_wp2_with fail
  go_loopw [3, 4] (fun n i wr => ∃ k m : Nat, k ≤ b.ds.length ∧ i = .int .i64 k ∧ n = .int .i64 m ∧ Hid (m = b.ks.length ^ k) ∧ Hid (Box wr w.heap.size 25 #[iv b.n, iv b.w, .slice A1 b.ks.length cap1, .slice A2 b.ds.length cap2]) ∧ Hid (Below w.heap.size w wr)) (fun _ i _ => b.ds.length - (intOf i).toNat)
  case atStart => exact ⟨0, 1, by omega, rfl, rfl, Lib.hid rfl, N0.out, HB0.out⟩
  case round =>
    clear N0 HB0
    obtain ⟨k, m, hk, rfl, rfl, Hm, B1, HB⟩ := hrel
    have N := B1.out
    have cN := fun i => N.cell i
    by_cases hlt : k < b.ds.length
    · have hkd : (k : Int) < (b.ds.length : Int) := by omega
      have hm1 := pow_in hk5 (show k ≤ 8 by omega)
      rw [← Hm.out] at hm1
      obtain ⟨q, hq⟩ : ∃ q, m * b.ks.length = q := ⟨_, rfl⟩
      have Hq := Lib.hid (show q = b.ks.length ^ (k + 1) by rw [← hq, Hm.out, Nat.pow_succ])
      have hq1 := pow_in hk5 (show k + 1 ≤ 8 by omega)
      rw [← Hq.out] at hq1
      have hW : IntKind.i64.wrap ((m : Int) * (b.ks.length : Int)) = (q : Int) := by
        rw [← Int.natCast_mul, hq]
        exact wrapK_in _ 1000000 (by omega) (by omega)
      clear hq
      go_wp2_with fail
      clear cN N
      go_roundw
      case rel => exact ⟨k + 1, q, by omega, by go_num, rfl, Hq, B1.out, HB.out⟩
      case measure => simp [intOf]; omega
    · have hkd : ¬ (k : Int) < (b.ds.length : Int) := by omega
      have hmR : m = R := by rw [← HR.out, Hm.out, show k = b.ds.length by omega]
      subst hmR
      go_wp2_with fail
      go_ret
      exact ⟨rfl, HB.out⟩
/-- The digits as they are filled in: j days are left over, i are done. -/
def fill (K j i n : Nat) : List Int := List.replicate j 0 ++ low K i n
theorem fill_put {K j i n : Nat} : (fill K (j + 1) i n).set j (((n / K ^ i % K : Nat)) : Int) = fill K j (i + 1) n := by
  unfold fill
  rw [List.set_append_left _ _ (by simp), low]
  rw [List.replicate_succ', List.set_append_right _ _ (by simp)]
  simp
theorem fill_len {K j i n : Nat} : (fill K j i n).length = j + i := by simp [fill, low_len]
set_option maxRecDepth 100000 in
set_option maxHeartbeats 1500000 in
theorem RNth_any (v1 v2 : Value) (b : Bk) (n : Nat) (w : World) (hL : BookAt w v1 v2 b) (hk1 : 0 < b.ks.length) (hk5 : b.ks.length ≤ 5) (hd8 : b.ds.length ≤ 8) (hn : n ≤ 1000000) :
    Calls Try.prog 75 #[.agg #[iv b.n, iv b.w, v1, v2], iv n] w fun r w' => ∃ u, r = .returned u ∧ IntsAt w' u (low b.ks.length b.ds.length n) ∧ Below w.heap.size w w' := by
  obtain ⟨i0, hi0, hz0, hz1, hz2⟩ := info_parts int_info
  obtain ⟨_, A1, cap1, rfl, _, _⟩ := hL.ks.form
  obtain ⟨_, A2, cap2, rfl, _, _⟩ := hL.ds.form
  clear hL
  go_enter Try.func75, Try.ntmps75
  go_wp2_with fail
  have B1 := Box.new (w := w) (t := 25) (cs := #[iv b.n, iv b.w, .slice A1 b.ks.length cap1, .slice A2 b.ds.length cap2]) rfl
  have hB : Below w.heap.size w (w.alloc (.cells #[iv b.n, iv b.w, .slice A1 b.ks.length cap1, .slice A2 b.ds.length cap2] 25)) := up_alloc up0 _
  generalize hW2 : w.alloc (.cells #[iv b.n, iv b.w, .slice A1 b.ks.length cap1, .slice A2 b.ds.length cap2] 25) = W2 at B1 hB ⊢
  clear hW2
  obtain ⟨W3, hr, hown, hgrow⟩ := run_make_full (P := Try.prog) W2 w.heap.size 23 3 i0 (.int .i64 0) 1 Try.underlying23 hi0 hz0 hz1 .i64 .i64 b.ds.length (by rw [hz2]; omega) (by unfold maxLen; omega) hB.size
  have hB3 : Below w.heap.size w W3 := hB.trans ((below_of_grown hgrow).mono hB.size)
  have B3 := B1.kept (below_of_grown hgrow)
  have hlB := B1.lt
  have hg0 := hB.size
  have hlt3 := (hown.lt W2.heap.size rfl).2
  have HO := Lib.hid (show W3.ownsRow w.heap.size 3 1 (.slice (some ⟨W2.heap.size, 0, none⟩) b.ds.length b.ds.length) b.ds.length ((fill b.ks.length b.ds.length 0 n).map iv) by
    have e : (fill b.ks.length b.ds.length 0 n).map iv = List.replicate b.ds.length (iv 0) := by simp [fill, low]
    rw [e]
    simpa [toList_madeCells_one, Value.cells] using hown)
  rw [hr]
  clear hr hown hgrow B1 hB
  generalize W2.heap.size = g at *
  have B3 := Lib.hid B3
  have hB3 := Lib.hid hB3
  have hWd : IntKind.i64.wrap ((b.ds.length : Int) - 1) = (b.ds.length : Int) - 1 := wrapK_in _ 1000 (by omega) (by omega)
  have cN := fun i => B3.out.cell i
  go_wp2_with fail
  clear cN
  go_loopw [1, 6] (fun m d wr => ∃ j i q : Nat, ∃ z : Int, d = .int .i64 z ∧ m = .int .i64 q ∧ Hid (z = (j : Int) - 1 ∧ j + i = b.ds.length ∧ q = n / b.ks.length ^ i) ∧ Hid (Box wr w.heap.size 25 #[iv b.n, iv b.w, .slice A1 b.ks.length cap1, .slice A2 b.ds.length cap2]) ∧ Hid (Below w.heap.size w wr) ∧ Hid (wr.ownsRow w.heap.size 3 1 (.slice (some ⟨g, 0, none⟩) b.ds.length b.ds.length) b.ds.length ((fill b.ks.length j i n).map iv))) (fun _ d _ => (intOf d + 1).toNat)
  case atStart => exact ⟨b.ds.length, 0, n, _, rfl, rfl, Lib.hid ⟨rfl, by omega, by simp⟩, B3.out, hB3.out, HO.out⟩
  case round =>
    clear HO B3 hB3
    obtain ⟨j, i, q, z, rfl, rfl, Hz, B1, HB, HO⟩ := hrel
    obtain ⟨hz, hji, hq⟩ := Hz.out
    rcases j with _ | j
    · have hz0' : z = -1 := by omega
      subst hz0'
      have hi : i = b.ds.length := by omega
      have ho := HO.out
      rw [show fill b.ks.length 0 i n = low b.ks.length b.ds.length n by rw [hi]; simp [fill]] at ho
      have HI := Lib.hid (ints_of_own ho (by rw [low_len]) (by rw [low_len]; omega))
      clear ho hi hz hji hq
      go_wp2_with fail
      go_ret
      exact ⟨_, rfl, HI.out, HB.out⟩
    · have hzj : z = (j : Int) := by omega
      subst hzj
      have j0 : (0 : Int) ≤ (j : Int) := by omega
      have j1 : (j : Int) < (b.ds.length : Int) := by omega
      have hqn : q ≤ 1000000 := by rw [hq]; exact Nat.le_trans (Nat.div_le_self _ _) hn
      obtain ⟨r, hr⟩ : ∃ r, q % b.ks.length = r := ⟨_, rfl⟩
      obtain ⟨q2, hq2⟩ : ∃ q2, q / b.ks.length = q2 := ⟨_, rfl⟩
      have hT : (q : Int).tmod (b.ks.length : Int) = (r : Int) := by rw [Int.tmod_eq_emod_of_nonneg (by omega), ← hr]; exact (Int.natCast_emod _ _).symm
      have hT2 : (q : Int).tdiv (b.ks.length : Int) = (q2 : Int) := by rw [Int.tdiv_eq_ediv_of_nonneg (by omega), ← hq2]; exact (Int.natCast_ediv _ _).symm
      have hq2n : q2 ≤ 1000000 := by rw [← hq2]; exact Nat.le_trans (Nat.div_le_self _ _) hqn
      have hWq : IntKind.i64.wrap (q2 : Int) = (q2 : Int) := wrapK_in _ 2000000 (by omega) (by omega)
      have Hn := Lib.hid (show q2 = n / b.ks.length ^ (i + 1) by rw [← hq2, hq, Nat.div_div_eq_div_mul, Nat.pow_succ])
      have Hr := Lib.hid (show r = n / b.ks.length ^ i % b.ks.length by rw [← hr, hq])
      have Hji := Lib.hid hji
      have hkk1 : ¬ (b.ks.length : Int) = 0 := by omega
      have hkk2 : ((b.ks.length : Int) == 0) = false := by rw [beq_eq_false_iff_ne]; omega
      have hkk3 : ¬ b.ks = [] := fun e => by rw [e] at hk1; simp at hk1
      clear hz hji hq hr hq2 Hz
      have N := B1.out
      have HO2 := HO
      have HB2 := HB
      obtain ⟨y, hy⟩ : ∃ y, (fill b.ks.length (j + 1) i n)[j]? = some y := ⟨_, List.getElem?_eq_getElem (by rw [fill_len]; omega)⟩
      have q0 : wr.cell? ⟨g, j, none⟩ = some (iv y) := own_cell HO2.out (map_some hy)
      have q1 : wr.frozen? ⟨g, j, none⟩ = false := own_free HO2.out
      have hgl : g < wr.heap.size := (HO2.out.lt g rfl).2
      have hgw := (HO2.out.lt g rfl).1
      have cN := fun i => N.cell i
      have HO3 := Lib.hid (own_int (i := j) (z := (r : Int)) HO2.out)
      have HB3 := Lib.hid (up_put HB2.out (p := ⟨g, j, none⟩) hgw (iv (r : Int)))
      have B3 := Lib.hid (N.far (p := ⟨g, j, none⟩) (by simp; omega) (iv (r : Int)))
      clear hy
      go_wp2_with fail
      go_region
      clear q0 q1 cN N HO2 HB2
      go_wp2_with fail
      go_roundw
      case rel =>
        refine ⟨j, i + 1, q2, (j : Int) - 1, by go_num, rfl, Lib.hid ⟨rfl, by have := Hji.out; omega, Hn.out⟩, B3.out.kept (up_drew up0), up_drew HB3.out, ?_⟩
        have h := own_below HO3.out (up_drew up0)
        rw [show ((r : Nat) : Int) = ((n / b.ks.length ^ i % b.ks.length : Nat) : Int) by rw [Hr.out], fill_put] at h
        rw [Hr.out]
        exact h
      case measure => simp [intOf]
end Go.Proofs.Ytoenhkhfpbglhaa

namespace Go.Proofs.Ytoenhkhfpbglhaa
open Go.RowKit Go.Shelf
attribute [local go_sem] Oper.semAt_some

theorem bestN_nn {b : Bk} (hk : 0 < b.ks.length) (ls : List Ls) (most : Int) (n : Nat) : ∀ x ∈ (bestN b ls most n).1, 0 ≤ x := fun x hx => by
  rcases bestN_inv b ls most n with ⟨h1, _⟩ | ⟨k, _, h2, _⟩
  · rw [h1] at hx; cases hx
  · rw [h2] at hx; exact (low_in hk _ _ x hx).1
theorem bestN_len {b : Bk} (ls : List Ls) (most : Int) (n : Nat) : (bestN b ls most n).1.length ≤ b.ds.length := by
  rcases bestN_inv b ls most n with ⟨h1, _⟩ | ⟨k, _, h2, _⟩
  · rw [h1]; simp
  · rw [h2, low_len]; exact Nat.le_refl _
set_option maxRecDepth 100000 in
set_option maxHeartbeats 2000000 in
theorem RPlan_any (v1 v2 v3 : Value) (b : Bk) (ls : List Ls) (most : Int) (w : World) (hok : BookOK b) (h0 : 0 ≤ most) (hL : BookAt w v1 v2 b) (hls : RowsAt w v3 2 Ls.cells ls) :
    Calls Try.prog 39 #[.agg #[iv b.n, iv b.w, v1, v2], v3, iv most] w fun r w' => ∃ u, r = .returned (.tuple #[u, .bool (bestN b ls most (b.ks.length ^ b.ds.length)).2]) ∧ IntsAt w' u (bestN b ls most (b.ks.length ^ b.ds.length)).1 ∧ Below w.heap.size w w' := by
  obtain ⟨_, A1, cap1, rfl, _, _⟩ := hL.ks.form
  obtain ⟨_, A2, cap2, rfl, _, _⟩ := hL.ds.form
  obtain ⟨_, A3, cap3, rfl, _, _⟩ := hls.form
  have HL := Lib.hid hL
  have HS := Lib.hid hls
  have hk5 := hok.k2
  have hk1 := hok.k1
  have hd8 := hok.d2
  obtain ⟨M, hM⟩ : ∃ M, b.ks.length ^ b.ds.length = M := ⟨_, rfl⟩
  have hM9 := pow_in hk5 hd8
  rw [hM] at hM9 ⊢
  have HM := Lib.hid hM
  clear hL hls hok hM
  go_enter Try.func39, Try.ntmps39
  go_wp2_with fail
  go_loopw [8, 9, 10, 11] (fun u f i p wr => ∃ n : Nat, ∃ B : List Int, ∃ fd : Bool, i = .int .i64 n ∧ f = .bool fd ∧ Hid (bestN b ls most n = (B, fd)) ∧ Hid (IntsAt wr u B) ∧ Hid (n ≤ M) ∧ Hid (Box wr w.heap.size 25 #[iv b.n, iv b.w, .slice A1 b.ks.length cap1, .slice A2 b.ds.length cap2]) ∧ Hid (Below w.heap.size w wr)) (fun _ _ i _ _ => M - (intOf i).toNat)
  case atStart => exact ⟨0, [], false, rfl, rfl, Lib.hid rfl, RowsAt.nil _, Lib.hid (by omega), Box.new rfl, up_alloc up0 _⟩
  case round =>
    obtain ⟨n, B, fd, rfl, rfl, Hst, HBV, HnM, B1, HB⟩ := hrel
    obtain ⟨_, Ab, cb, rfl, _, _⟩ := HBV.out.form
    have BB := B1.out
    have cB := fun i => BB.cell i
    have fB := fun i => BB.free i
    have lB := BB.lt
    have mB := Nat.lt_succ_of_lt lB
    go_wp2_with fail
    clear cB fB lB mB BB
    refine (RMany_any _ _ b _ (HL.out.kept HB.out) hk5 hd8).mono ?_
    rintro e w1 ⟨rfl, hb⟩
    rw [HM.out]
    have HB := Lib.hid (up_later HB.out hb)
    have B1 := Lib.hid (B1.out.kept hb)
    have HBV := Lib.hid (HBV.out.kept hb)
    clear hb
    by_cases hlt : n < M
    · have hlt' : (n : Int) < (M : Int) := by omega
      have BB := B1.out
      have cB := fun i => BB.cell i
      have fB := fun i => BB.free i
      have lB := BB.lt
      have mB := Nat.lt_succ_of_lt lB
      go_wp2_with fail
      clear cB fB lB mB BB
      refine (RNth_any _ _ b n _ (HL.out.kept HB.out) hk1 hk5 hd8 (by omega)).mono ?_
      rintro e w2 ⟨pv, rfl, hq, hb⟩
      obtain ⟨P, hP⟩ : ∃ P, low b.ks.length b.ds.length n = P := ⟨_, rfl⟩
      rw [hP] at hq
      obtain ⟨_, Ap, cp, rfl, _, _⟩ := hq.form
      have HPV := Lib.hid hq
      have HPe := Lib.hid hP
      have HPn := Lib.hid (show ∀ x ∈ P, 0 ≤ x from fun x hx => by rw [← hP] at hx; exact (low_in hk1 _ _ x hx).1)
      have HBn := Lib.hid (show ∀ x ∈ B, 0 ≤ x from fun x hx => bestN_nn hk1 ls most n x (by rw [Hst.out]; exact hx))
      clear hq hP
      have HB := Lib.hid (up_later HB.out hb)
      have B1 := Lib.hid (B1.out.kept hb)
      have HBV := Lib.hid (HBV.out.kept hb)
      clear hb
      obtain ⟨rt, hrt⟩ : ∃ rt, rightB b ls most P = rt := ⟨_, rfl⟩
      have HRt := Lib.hid hrt
      clear hrt
      cases fd with
      | false =>
        have BB := B1.out
        have cB := fun i => BB.cell i
        have fB := fun i => BB.free i
        have lB := BB.lt
        have mB := Nat.lt_succ_of_lt lB
        go_wp2_with fail
        clear cB fB lB mB BB
        refine (RIsRight_any _ _ _ _ b ls most P _ h0 hk5 (HL.out.kept HB.out) (HS.out.kept HB.out) HPV.out).mono ?_
        rintro e w5 ⟨rfl, hb⟩
        rw [HRt.out]
        have HB := Lib.hid (up_later HB.out hb)
        have B1 := Lib.hid (B1.out.kept hb)
        have HPV := Lib.hid (HPV.out.kept hb)
        have HBV := Lib.hid (HBV.out.kept hb)
        clear hb
        cases rt with
        | true => 
          go_wp2_with fail
          go_roundw
          case rel => exact ⟨n + 1, P, true, by go_num, rfl, Lib.hid (by rw [bestN, Hst.out, HPe.out]; simp [HRt.out]), HPV.out, Lib.hid (by have := HnM.out; omega), B1.out, HB.out⟩
          case measure => simp [intOf]; have := HnM.out; omega
        | false =>
          go_wp2_with fail
          go_roundw
          case rel => exact ⟨n + 1, _, _, by go_num, rfl, Lib.hid (by rw [bestN, Hst.out, HPe.out]; simp [HRt.out]), HBV.out, Lib.hid (by have := HnM.out; omega), B1.out, HB.out⟩
          case measure => simp [intOf]; have := HnM.out; omega
      | true =>
        obtain ⟨c1, hc1⟩ : ∃ c1, chL (-1) P = c1 := ⟨_, rfl⟩
        obtain ⟨c2, hc2⟩ : ∃ c2, chL (-1) B = c2 := ⟨_, rfl⟩
        have Hc1 := Lib.hid hc1
        have Hc2 := Lib.hid hc2
        by_cases hcc : c1 < c2
        · have Hlt := Lib.hid (show chL (-1) P < chL (-1) B by rw [hc1, hc2]; exact hcc)
          clear hc1 hc2
          have BB := B1.out
          have cB := fun i => BB.cell i
          have fB := fun i => BB.free i
          have lB := BB.lt
          have mB := Nat.lt_succ_of_lt lB
          go_wp2_with fail
          clear cB fB lB mB BB
          refine (RChanges_any _ P _ HPV.out HPn.out).mono ?_
          rintro e w6 ⟨rfl, hb⟩
          rw [Hc1.out]
          have HB := Lib.hid (up_later HB.out hb)
          have B1 := Lib.hid (B1.out.kept hb)
          have HPV := Lib.hid (HPV.out.kept hb)
          have HBV := Lib.hid (HBV.out.kept hb)
          clear hb
          have BB := B1.out
          have cB := fun i => BB.cell i
          have fB := fun i => BB.free i
          have lB := BB.lt
          have mB := Nat.lt_succ_of_lt lB
          go_wp2_with fail
          clear cB fB lB mB BB
          refine (RChanges_any _ B _ HBV.out HBn.out).mono ?_
          rintro e w7 ⟨rfl, hb⟩
          rw [Hc2.out]
          have HB := Lib.hid (up_later HB.out hb)
          have B1 := Lib.hid (B1.out.kept hb)
          have HPV := Lib.hid (HPV.out.kept hb)
          have HBV := Lib.hid (HBV.out.kept hb)
          clear hb
          have BB := B1.out
          have cB := fun i => BB.cell i
          have fB := fun i => BB.free i
          have lB := BB.lt
          have mB := Nat.lt_succ_of_lt lB
          go_wp2_with fail
          clear cB fB lB mB BB
          refine (RIsRight_any _ _ _ _ b ls most P _ h0 hk5 (HL.out.kept HB.out) (HS.out.kept HB.out) HPV.out).mono ?_
          rintro e w5 ⟨rfl, hb⟩
          rw [HRt.out]
          have HB := Lib.hid (up_later HB.out hb)
          have B1 := Lib.hid (B1.out.kept hb)
          have HPV := Lib.hid (HPV.out.kept hb)
          have HBV := Lib.hid (HBV.out.kept hb)
          clear hb
          cases rt with
          | true =>
            go_wp2_with fail
            go_roundw
            case rel => exact ⟨n + 1, P, true, by go_num, rfl, Lib.hid (by rw [bestN, Hst.out, HPe.out]; simp [HRt.out, Hlt.out]), HPV.out, Lib.hid (by have := HnM.out; omega), B1.out, HB.out⟩
            case measure => simp [intOf]; have := HnM.out; omega
          | false =>
            go_wp2_with fail
            go_roundw
            case rel => exact ⟨n + 1, _, _, by go_num, rfl, Lib.hid (by rw [bestN, Hst.out, HPe.out]; simp [HRt.out]), HBV.out, Lib.hid (by have := HnM.out; omega), B1.out, HB.out⟩
            case measure => simp [intOf]; have := HnM.out; omega
        · have Hlt := Lib.hid (show ¬ chL (-1) P < chL (-1) B by rw [hc1, hc2]; exact hcc)
          clear hc1 hc2
          have BB := B1.out
          have cB := fun i => BB.cell i
          have fB := fun i => BB.free i
          have lB := BB.lt
          have mB := Nat.lt_succ_of_lt lB
          go_wp2_with fail
          clear cB fB lB mB BB
          refine (RChanges_any _ P _ HPV.out HPn.out).mono ?_
          rintro e w6 ⟨rfl, hb⟩
          rw [Hc1.out]
          have HB := Lib.hid (up_later HB.out hb)
          have B1 := Lib.hid (B1.out.kept hb)
          have HPV := Lib.hid (HPV.out.kept hb)
          have HBV := Lib.hid (HBV.out.kept hb)
          clear hb
          have BB := B1.out
          have cB := fun i => BB.cell i
          have fB := fun i => BB.free i
          have lB := BB.lt
          have mB := Nat.lt_succ_of_lt lB
          go_wp2_with fail
          clear cB fB lB mB BB
          refine (RChanges_any _ B _ HBV.out HBn.out).mono ?_
          rintro e w7 ⟨rfl, hb⟩
          rw [Hc2.out]
          have HB := Lib.hid (up_later HB.out hb)
          have B1 := Lib.hid (B1.out.kept hb)
          have HPV := Lib.hid (HPV.out.kept hb)
          have HBV := Lib.hid (HBV.out.kept hb)
          clear hb
          go_wp2_with fail
          go_roundw
          case rel => exact ⟨n + 1, _, _, by go_num, rfl, Lib.hid (by rw [bestN, Hst.out, HPe.out]; rw [decide_eq_false (Int.not_lt.2 Hlt.out)]; rfl), HBV.out, Lib.hid (by have := HnM.out; omega), B1.out, HB.out⟩
          case measure => simp [intOf]; have := HnM.out; omega
    · have hlt' : ¬ (n : Int) < (M : Int) := by omega
      have hnM : n = M := by have := HnM.out; omega
      subst hnM
      go_wp2_with fail
      go_ret2
      exact ⟨_, by rw [Hst.out]; rfl, by rw [Hst.out]; exact HBV.out, HB.out⟩
end Go.Proofs.Ytoenhkhfpbglhaa

namespace Go.Proofs.Ytoenhkhfpbglhaa
open Go.RowKit Go.Shelf
attribute [local go_sem] Oper.semAt_some

set_option maxRecDepth 100000 in
set_option maxHeartbeats 5000000 in
theorem plans_thin (A1 A2 A3 A4 : Option Addr) (cap1 cap2 cap3 cap4 : Nat) (b : Bk) (ls : List Ls) (most : Int) (l : List Int) (ch : Int) (w : World) (h8 : b.ks.length ≤ 8 ∧ b.ds.length ≤ 11) (h9 : ls.length ≤ 9) (h11 : l.length ≤ 11)
    (hL : BookAt w (.slice A1 b.ks.length cap1) (.slice A2 b.ds.length cap2) b) (hl : RowsAt w (.slice A3 ls.length cap3) 2 Ls.cells ls) (hx : IntsAt w (.slice A4 l.length cap4) l) :
    Calls Try.prog 6 #[.agg #[iv b.n, iv b.w, .slice A1 b.ks.length cap1, .slice A2 b.ds.length cap2], .slice A3 ls.length cap3, iv most, .slice A4 l.length cap4, iv ch] w fun e w' => e = .returned (.bool true) ∧ Below w.heap.size w w' := by
  have HL := Lib.hid hL
  have HV := Lib.hid hl
  have HX := Lib.hid hx
  have HT := Lib.hid (show (decide (b.ks.length ≤ 8) && decide (b.ds.length ≤ 11)) = true by simp [h8])
  have hk8 := h8.1
  have hd11 := h8.2
  have n9 : ¬ (9 : Int) < (ls.length : Int) := by omega
  have n11 : ¬ (11 : Int) < (l.length : Int) := by omega
  clear hL hl hx h8
  by_cases cF : bookE b = 0
  case neg =>
    obtain ⟨E, hE⟩ : ∃ E, bookE b = E := ⟨_, rfl⟩
    have hde : deskE b ls = E := by unfold deskE; rw [if_pos cF, hE]
    have cE : E ≠ 0 := by rw [← hE]; exact cF
    have HF := Lib.hid hE
    have HE := Lib.hid hde
    have HPl := Lib.hid (show planE b ls most = ([], 0, E) by unfold planE; rw [if_pos (by rw [hde]; exact cE), hde])
    have HPB := Lib.hid (show proveB b ls most l ch = false by unfold proveB; rw [decide_eq_false (by rw [hde]; exact cE)]; rfl)
    have e1 : (E == 0) = false := by rw [beq_eq_false_iff_ne]; exact cE
    clear cF hE hde cE
    go_enter Try.func6, Try.ntmps6
    go_wp2_with fail
    refine (Thin_any _ _ _ _ _ _ _ _ _ (by omega) (by omega)).mono ?_
    rintro e w1 ⟨rfl, hb⟩
    rw [HT.out]
    have HB := Lib.hid (up_later (up_alloc (up0 (w := w)) (.cells #[iv b.n, iv b.w, .slice A1 b.ks.length cap1, .slice A2 b.ds.length cap2] 25)) hb)
    have B1 := Lib.hid ((Box.new (w := w) (t := 25) (cs := #[iv b.n, iv b.w, .slice A1 b.ks.length cap1, .slice A2 b.ds.length cap2]) rfl).kept hb)
    clear hb
    have BB := B1.out
    have cB := fun i => BB.cell i
    have fB := fun i => BB.free i
    have lB := BB.lt
    have mB := Nat.lt_succ_of_lt lB
    go_wp2_with fail
    clear cB fB lB mB BB
    refine (Lfault_any _ _ b _ (HL.out.kept HB.out)).mono ?_
    rintro e w2 ⟨rfl, hb⟩
    rw [HF.out]
    have HB := Lib.hid (up_later HB.out hb)
    have B1 := Lib.hid (B1.out.kept hb)
    clear hb
    have BB := B1.out
    have cB := fun i => BB.cell i
    have fB := fun i => BB.free i
    have lB := BB.lt
    have mB := Nat.lt_succ_of_lt lB
    go_wp2_with fail
    clear cB fB lB mB BB
    refine (Book_any _ _ b _ (HL.out.kept HB.out)).mono ?_
    rintro e w2 ⟨a1, a2, rfl, hq, hb⟩
    have HQ := Lib.hid hq
    clear hq
    have HB := Lib.hid (up_later HB.out hb)
    have B1 := Lib.hid (B1.out.kept hb)
    clear hb
    unfold bookV
    have BB := B1.out
    have cB := fun i => BB.cell i
    have fB := fun i => BB.free i
    have lB := BB.lt
    have mB := Nat.lt_succ_of_lt lB
    go_wp2_with fail
    clear cB fB lB mB BB
    refine (Losses_any _ ls _ (HV.out.kept HB.out)).mono ?_
    rintro e w3 ⟨lv, rfl, hq, hb⟩
    have HP := Lib.hid hq
    have HQ := Lib.hid (HQ.out.kept hb)
    clear hq
    have HB := Lib.hid (up_later HB.out hb)
    have B1 := Lib.hid (B1.out.kept hb)
    clear hb
    have BB := B1.out
    have cB := fun i => BB.cell i
    have fB := fun i => BB.free i
    have lB := BB.lt
    have mB := Nat.lt_succ_of_lt lB
    go_wp2_with fail
    clear cB fB lB mB BB
    refine (Plan_any _ _ _ b ls most _ HQ.out HP.out).mono ?_
    rintro e w4 ⟨pv, rfl, hq, hb⟩
    rw [HPl.out] at hq ⊢
    obtain ⟨_, Ap, cp, rfl, _, _⟩ := hq.form
    have HPL := Lib.hid hq
    clear hq HQ HP
    have HB := Lib.hid (up_later HB.out hb)
    have B1 := Lib.hid (B1.out.kept hb)
    clear hb
    have BB := B1.out
    have cB := fun i => BB.cell i
    have fB := fun i => BB.free i
    have lB := BB.lt
    have mB := Nat.lt_succ_of_lt lB
    go_wp2_with fail
    clear cB fB lB mB BB
    refine (Book_any _ _ b _ (HL.out.kept HB.out)).mono ?_
    rintro e w2 ⟨a1, a2, rfl, hq, hb⟩
    have HQ := Lib.hid hq
    clear hq
    have HB := Lib.hid (up_later HB.out hb)
    have B1 := Lib.hid (B1.out.kept hb)
    have HPL := Lib.hid (HPL.out.kept hb)
    clear hb
    unfold bookV
    have BB := B1.out
    have cB := fun i => BB.cell i
    have fB := fun i => BB.free i
    have lB := BB.lt
    have mB := Nat.lt_succ_of_lt lB
    go_wp2_with fail
    clear cB fB lB mB BB
    refine (Losses_any _ ls _ (HV.out.kept HB.out)).mono ?_
    rintro e w3 ⟨lv, rfl, hq, hb⟩
    have HP := Lib.hid hq
    have HQ := Lib.hid (HQ.out.kept hb)
    clear hq
    have HB := Lib.hid (up_later HB.out hb)
    have B1 := Lib.hid (B1.out.kept hb)
    have HPL := Lib.hid (HPL.out.kept hb)
    clear hb
    have BB := B1.out
    have cB := fun i => BB.cell i
    have fB := fun i => BB.free i
    have lB := BB.lt
    have mB := Nat.lt_succ_of_lt lB
    go_wp2_with fail
    clear cB fB lB mB BB
    refine (list_any _ l _ (HX.out.kept HB.out)).mono ?_
    rintro e w3 ⟨mv, rfl, hq, hb⟩
    have HMV := Lib.hid hq
    have HQ := Lib.hid (HQ.out.kept hb)
    have HP := Lib.hid (HP.out.kept hb)
    clear hq
    have HB := Lib.hid (up_later HB.out hb)
    have B1 := Lib.hid (B1.out.kept hb)
    have HPL := Lib.hid (HPL.out.kept hb)
    clear hb
    have BB := B1.out
    have cB := fun i => BB.cell i
    have fB := fun i => BB.free i
    have lB := BB.lt
    have mB := Nat.lt_succ_of_lt lB
    go_wp2_with fail
    clear cB fB lB mB BB
    refine (ProvePlan_any _ _ _ _ b ls most l ch _ HQ.out HP.out HMV.out).mono ?_
    rintro e w3 ⟨rfl, hb⟩
    rw [HPB.out]
    clear HQ HP HMV
    have HB := Lib.hid (up_later HB.out hb)
    have B1 := Lib.hid (B1.out.kept hb)
    have HPL := Lib.hid (HPL.out.kept hb)
    clear hb
    have BB := B1.out
    have cB := fun i => BB.cell i
    have fB := fun i => BB.free i
    have lB := BB.lt
    have mB := Nat.lt_succ_of_lt lB
    go_wp2_with fail
    clear cB fB lB mB BB
    refine (lossy_any _ _ _ b ls _ (HL.out.kept HB.out) (HV.out.kept HB.out)).mono ?_
    rintro e w5 ⟨rfl, hb⟩
    rw [HE.out]
    have HB := Lib.hid (up_later HB.out hb)
    have B1 := Lib.hid (B1.out.kept hb)
    have HPL := Lib.hid (HPL.out.kept hb)
    clear hb
    have BB := B1.out
    have cB := fun i => BB.cell i
    have fB := fun i => BB.free i
    have lB := BB.lt
    have mB := Nat.lt_succ_of_lt lB
    go_wp2_with fail
    clear cB fB lB mB BB
    refine (awake_any _).mono ?_
    rintro e w9 ⟨rfl, hb⟩
    go_wp2_with fail
    go_ret
    exact ⟨rfl, up_later HB.out hb⟩
  have hok := BookOK.of cF
  have hk5 := hok.k2
  have hk1 := hok.k1
  have hd8 := hok.d2
  have HF := Lib.hid cF
  have HOK := Lib.hid hok
  obtain ⟨M, hM⟩ : ∃ M, b.ks.length ^ b.ds.length = M := ⟨_, rfl⟩
  have HM := Lib.hid hM
  by_cases cM : 5000 < M
  · have cM' : (5000 : Int) < (M : Int) := by omega
    clear cF hok hM
    go_enter Try.func6, Try.ntmps6
    go_wp2_with fail
    refine (Thin_any _ _ _ _ _ _ _ _ _ (by omega) (by omega)).mono ?_
    rintro e w1 ⟨rfl, hb⟩
    rw [HT.out]
    have HB := Lib.hid (up_later (up_alloc (up0 (w := w)) (.cells #[iv b.n, iv b.w, .slice A1 b.ks.length cap1, .slice A2 b.ds.length cap2] 25)) hb)
    have B1 := Lib.hid ((Box.new (w := w) (t := 25) (cs := #[iv b.n, iv b.w, .slice A1 b.ks.length cap1, .slice A2 b.ds.length cap2]) rfl).kept hb)
    clear hb
    have BB := B1.out
    have cB := fun i => BB.cell i
    have fB := fun i => BB.free i
    have lB := BB.lt
    have mB := Nat.lt_succ_of_lt lB
    go_wp2_with fail
    clear cB fB lB mB BB
    refine (Lfault_any _ _ b _ (HL.out.kept HB.out)).mono ?_
    rintro e w2 ⟨rfl, hb⟩
    rw [HF.out]
    have HB := Lib.hid (up_later HB.out hb)
    have B1 := Lib.hid (B1.out.kept hb)
    clear hb
    have BB := B1.out
    have cB := fun i => BB.cell i
    have fB := fun i => BB.free i
    have lB := BB.lt
    have mB := Nat.lt_succ_of_lt lB
    go_wp2_with fail
    clear cB fB lB mB BB
    refine (RMany_any _ _ b _ (HL.out.kept HB.out) hk5 hd8).mono ?_
    rintro e w2 ⟨rfl, hb⟩
    rw [HM.out]
    have HB := Lib.hid (up_later HB.out hb)
    have B1 := Lib.hid (B1.out.kept hb)
    clear hb
    have BB := B1.out
    have cB := fun i => BB.cell i
    have fB := fun i => BB.free i
    have lB := BB.lt
    have mB := Nat.lt_succ_of_lt lB
    go_wp2_with fail
    clear cB fB lB mB BB
    refine (awake_any _).mono ?_
    rintro e w9 ⟨rfl, hb⟩
    go_wp2_with fail
    go_ret
    exact ⟨rfl, up_later HB.out hb⟩
  have cM' : ¬ (5000 : Int) < (M : Int) := by omega
  clear hM
  by_cases cD : deskE b ls = 0
  case neg =>
    obtain ⟨E, hE⟩ : ∃ E, deskE b ls = E := ⟨_, rfl⟩
    rw [hE] at cD
    have HE := Lib.hid hE
    have HPl := Lib.hid (show planE b ls most = ([], 0, E) by unfold planE; rw [if_pos (by rw [hE]; exact cD), hE])
    have HPB := Lib.hid (show proveB b ls most l ch = false by unfold proveB; rw [decide_eq_false (by rw [hE]; exact cD)]; rfl)
    have e1 : (E == 0) = false := by rw [beq_eq_false_iff_ne]; exact cD
    clear cF hok hE cD
    go_enter Try.func6, Try.ntmps6
    go_wp2_with fail
    refine (Thin_any _ _ _ _ _ _ _ _ _ (by omega) (by omega)).mono ?_
    rintro e w1 ⟨rfl, hb⟩
    rw [HT.out]
    have HB := Lib.hid (up_later (up_alloc (up0 (w := w)) (.cells #[iv b.n, iv b.w, .slice A1 b.ks.length cap1, .slice A2 b.ds.length cap2] 25)) hb)
    have B1 := Lib.hid ((Box.new (w := w) (t := 25) (cs := #[iv b.n, iv b.w, .slice A1 b.ks.length cap1, .slice A2 b.ds.length cap2]) rfl).kept hb)
    clear hb
    have BB := B1.out
    have cB := fun i => BB.cell i
    have fB := fun i => BB.free i
    have lB := BB.lt
    have mB := Nat.lt_succ_of_lt lB
    go_wp2_with fail
    clear cB fB lB mB BB
    refine (Lfault_any _ _ b _ (HL.out.kept HB.out)).mono ?_
    rintro e w2 ⟨rfl, hb⟩
    rw [HF.out]
    have HB := Lib.hid (up_later HB.out hb)
    have B1 := Lib.hid (B1.out.kept hb)
    clear hb
    have BB := B1.out
    have cB := fun i => BB.cell i
    have fB := fun i => BB.free i
    have lB := BB.lt
    have mB := Nat.lt_succ_of_lt lB
    go_wp2_with fail
    clear cB fB lB mB BB
    refine (RMany_any _ _ b _ (HL.out.kept HB.out) hk5 hd8).mono ?_
    rintro e w2 ⟨rfl, hb⟩
    rw [HM.out]
    have HB := Lib.hid (up_later HB.out hb)
    have B1 := Lib.hid (B1.out.kept hb)
    clear hb
    have BB := B1.out
    have cB := fun i => BB.cell i
    have fB := fun i => BB.free i
    have lB := BB.lt
    have mB := Nat.lt_succ_of_lt lB
    go_wp2_with fail
    clear cB fB lB mB BB
    refine (Book_any _ _ b _ (HL.out.kept HB.out)).mono ?_
    rintro e w2 ⟨a1, a2, rfl, hq, hb⟩
    have HQ := Lib.hid hq
    clear hq
    have HB := Lib.hid (up_later HB.out hb)
    have B1 := Lib.hid (B1.out.kept hb)
    clear hb
    unfold bookV
    have BB := B1.out
    have cB := fun i => BB.cell i
    have fB := fun i => BB.free i
    have lB := BB.lt
    have mB := Nat.lt_succ_of_lt lB
    go_wp2_with fail
    clear cB fB lB mB BB
    refine (Losses_any _ ls _ (HV.out.kept HB.out)).mono ?_
    rintro e w3 ⟨lv, rfl, hq, hb⟩
    have HP := Lib.hid hq
    have HQ := Lib.hid (HQ.out.kept hb)
    clear hq
    have HB := Lib.hid (up_later HB.out hb)
    have B1 := Lib.hid (B1.out.kept hb)
    clear hb
    have BB := B1.out
    have cB := fun i => BB.cell i
    have fB := fun i => BB.free i
    have lB := BB.lt
    have mB := Nat.lt_succ_of_lt lB
    go_wp2_with fail
    clear cB fB lB mB BB
    refine (Plan_any _ _ _ b ls most _ HQ.out HP.out).mono ?_
    rintro e w4 ⟨pv, rfl, hq, hb⟩
    rw [HPl.out] at hq ⊢
    obtain ⟨_, Ap, cp, rfl, _, _⟩ := hq.form
    have HPL := Lib.hid hq
    clear hq HQ HP
    have HB := Lib.hid (up_later HB.out hb)
    have B1 := Lib.hid (B1.out.kept hb)
    clear hb
    have BB := B1.out
    have cB := fun i => BB.cell i
    have fB := fun i => BB.free i
    have lB := BB.lt
    have mB := Nat.lt_succ_of_lt lB
    go_wp2_with fail
    clear cB fB lB mB BB
    refine (Book_any _ _ b _ (HL.out.kept HB.out)).mono ?_
    rintro e w2 ⟨a1, a2, rfl, hq, hb⟩
    have HQ := Lib.hid hq
    clear hq
    have HB := Lib.hid (up_later HB.out hb)
    have B1 := Lib.hid (B1.out.kept hb)
    have HPL := Lib.hid (HPL.out.kept hb)
    clear hb
    unfold bookV
    have BB := B1.out
    have cB := fun i => BB.cell i
    have fB := fun i => BB.free i
    have lB := BB.lt
    have mB := Nat.lt_succ_of_lt lB
    go_wp2_with fail
    clear cB fB lB mB BB
    refine (Losses_any _ ls _ (HV.out.kept HB.out)).mono ?_
    rintro e w3 ⟨lv, rfl, hq, hb⟩
    have HP := Lib.hid hq
    have HQ := Lib.hid (HQ.out.kept hb)
    clear hq
    have HB := Lib.hid (up_later HB.out hb)
    have B1 := Lib.hid (B1.out.kept hb)
    have HPL := Lib.hid (HPL.out.kept hb)
    clear hb
    have BB := B1.out
    have cB := fun i => BB.cell i
    have fB := fun i => BB.free i
    have lB := BB.lt
    have mB := Nat.lt_succ_of_lt lB
    go_wp2_with fail
    clear cB fB lB mB BB
    refine (list_any _ l _ (HX.out.kept HB.out)).mono ?_
    rintro e w3 ⟨mv, rfl, hq, hb⟩
    have HMV := Lib.hid hq
    have HQ := Lib.hid (HQ.out.kept hb)
    have HP := Lib.hid (HP.out.kept hb)
    clear hq
    have HB := Lib.hid (up_later HB.out hb)
    have B1 := Lib.hid (B1.out.kept hb)
    have HPL := Lib.hid (HPL.out.kept hb)
    clear hb
    have BB := B1.out
    have cB := fun i => BB.cell i
    have fB := fun i => BB.free i
    have lB := BB.lt
    have mB := Nat.lt_succ_of_lt lB
    go_wp2_with fail
    clear cB fB lB mB BB
    refine (ProvePlan_any _ _ _ _ b ls most l ch _ HQ.out HP.out HMV.out).mono ?_
    rintro e w3 ⟨rfl, hb⟩
    rw [HPB.out]
    clear HQ HP HMV
    have HB := Lib.hid (up_later HB.out hb)
    have B1 := Lib.hid (B1.out.kept hb)
    have HPL := Lib.hid (HPL.out.kept hb)
    clear hb
    have BB := B1.out
    have cB := fun i => BB.cell i
    have fB := fun i => BB.free i
    have lB := BB.lt
    have mB := Nat.lt_succ_of_lt lB
    go_wp2_with fail
    clear cB fB lB mB BB
    refine (lossy_any _ _ _ b ls _ (HL.out.kept HB.out) (HV.out.kept HB.out)).mono ?_
    rintro e w5 ⟨rfl, hb⟩
    rw [HE.out]
    have HB := Lib.hid (up_later HB.out hb)
    have B1 := Lib.hid (B1.out.kept hb)
    have HPL := Lib.hid (HPL.out.kept hb)
    clear hb
    have BB := B1.out
    have cB := fun i => BB.cell i
    have fB := fun i => BB.free i
    have lB := BB.lt
    have mB := Nat.lt_succ_of_lt lB
    go_wp2_with fail
    clear cB fB lB mB BB
    refine (awake_any _).mono ?_
    rintro e w9 ⟨rfl, hb⟩
    go_wp2_with fail
    go_ret
    exact ⟨rfl, up_later HB.out hb⟩
  have HE := Lib.hid cD
  cases cm : belowB most 9 with
  | false =>
    have HIn := Lib.hid (show inB 0 8 most = false by rw [← cm]; simp only [inB, belowB]; congr 1; rw [decide_eq_decide]; omega)
    have HPl := Lib.hid (show planE b ls most = ([], 0, 2) by unfold planE; rw [if_neg (by simpa using cD), if_pos cm])
    have HPB := Lib.hid (show proveB b ls most l ch = false by unfold proveB; rw [cm]; simp)
    clear cF hok cD cm
    go_enter Try.func6, Try.ntmps6
    go_wp2_with fail
    refine (Thin_any _ _ _ _ _ _ _ _ _ (by omega) (by omega)).mono ?_
    rintro e w1 ⟨rfl, hb⟩
    rw [HT.out]
    have HB := Lib.hid (up_later (up_alloc (up0 (w := w)) (.cells #[iv b.n, iv b.w, .slice A1 b.ks.length cap1, .slice A2 b.ds.length cap2] 25)) hb)
    have B1 := Lib.hid ((Box.new (w := w) (t := 25) (cs := #[iv b.n, iv b.w, .slice A1 b.ks.length cap1, .slice A2 b.ds.length cap2]) rfl).kept hb)
    clear hb
    have BB := B1.out
    have cB := fun i => BB.cell i
    have fB := fun i => BB.free i
    have lB := BB.lt
    have mB := Nat.lt_succ_of_lt lB
    go_wp2_with fail
    clear cB fB lB mB BB
    refine (Lfault_any _ _ b _ (HL.out.kept HB.out)).mono ?_
    rintro e w2 ⟨rfl, hb⟩
    rw [HF.out]
    have HB := Lib.hid (up_later HB.out hb)
    have B1 := Lib.hid (B1.out.kept hb)
    clear hb
    have BB := B1.out
    have cB := fun i => BB.cell i
    have fB := fun i => BB.free i
    have lB := BB.lt
    have mB := Nat.lt_succ_of_lt lB
    go_wp2_with fail
    clear cB fB lB mB BB
    refine (RMany_any _ _ b _ (HL.out.kept HB.out) hk5 hd8).mono ?_
    rintro e w2 ⟨rfl, hb⟩
    rw [HM.out]
    have HB := Lib.hid (up_later HB.out hb)
    have B1 := Lib.hid (B1.out.kept hb)
    clear hb
    have BB := B1.out
    have cB := fun i => BB.cell i
    have fB := fun i => BB.free i
    have lB := BB.lt
    have mB := Nat.lt_succ_of_lt lB
    go_wp2_with fail
    clear cB fB lB mB BB
    refine (Book_any _ _ b _ (HL.out.kept HB.out)).mono ?_
    rintro e w2 ⟨a1, a2, rfl, hq, hb⟩
    have HQ := Lib.hid hq
    clear hq
    have HB := Lib.hid (up_later HB.out hb)
    have B1 := Lib.hid (B1.out.kept hb)
    clear hb
    unfold bookV
    have BB := B1.out
    have cB := fun i => BB.cell i
    have fB := fun i => BB.free i
    have lB := BB.lt
    have mB := Nat.lt_succ_of_lt lB
    go_wp2_with fail
    clear cB fB lB mB BB
    refine (Losses_any _ ls _ (HV.out.kept HB.out)).mono ?_
    rintro e w3 ⟨lv, rfl, hq, hb⟩
    have HP := Lib.hid hq
    have HQ := Lib.hid (HQ.out.kept hb)
    clear hq
    have HB := Lib.hid (up_later HB.out hb)
    have B1 := Lib.hid (B1.out.kept hb)
    clear hb
    have BB := B1.out
    have cB := fun i => BB.cell i
    have fB := fun i => BB.free i
    have lB := BB.lt
    have mB := Nat.lt_succ_of_lt lB
    go_wp2_with fail
    clear cB fB lB mB BB
    refine (Plan_any _ _ _ b ls most _ HQ.out HP.out).mono ?_
    rintro e w4 ⟨pv, rfl, hq, hb⟩
    rw [HPl.out] at hq ⊢
    obtain ⟨_, Ap, cp, rfl, _, _⟩ := hq.form
    have HPL := Lib.hid hq
    clear hq HQ HP
    have HB := Lib.hid (up_later HB.out hb)
    have B1 := Lib.hid (B1.out.kept hb)
    clear hb
    have BB := B1.out
    have cB := fun i => BB.cell i
    have fB := fun i => BB.free i
    have lB := BB.lt
    have mB := Nat.lt_succ_of_lt lB
    go_wp2_with fail
    clear cB fB lB mB BB
    refine (Book_any _ _ b _ (HL.out.kept HB.out)).mono ?_
    rintro e w2 ⟨a1, a2, rfl, hq, hb⟩
    have HQ := Lib.hid hq
    clear hq
    have HB := Lib.hid (up_later HB.out hb)
    have B1 := Lib.hid (B1.out.kept hb)
    have HPL := Lib.hid (HPL.out.kept hb)
    clear hb
    unfold bookV
    have BB := B1.out
    have cB := fun i => BB.cell i
    have fB := fun i => BB.free i
    have lB := BB.lt
    have mB := Nat.lt_succ_of_lt lB
    go_wp2_with fail
    clear cB fB lB mB BB
    refine (Losses_any _ ls _ (HV.out.kept HB.out)).mono ?_
    rintro e w3 ⟨lv, rfl, hq, hb⟩
    have HP := Lib.hid hq
    have HQ := Lib.hid (HQ.out.kept hb)
    clear hq
    have HB := Lib.hid (up_later HB.out hb)
    have B1 := Lib.hid (B1.out.kept hb)
    have HPL := Lib.hid (HPL.out.kept hb)
    clear hb
    have BB := B1.out
    have cB := fun i => BB.cell i
    have fB := fun i => BB.free i
    have lB := BB.lt
    have mB := Nat.lt_succ_of_lt lB
    go_wp2_with fail
    clear cB fB lB mB BB
    refine (list_any _ l _ (HX.out.kept HB.out)).mono ?_
    rintro e w3 ⟨mv, rfl, hq, hb⟩
    have HMV := Lib.hid hq
    have HQ := Lib.hid (HQ.out.kept hb)
    have HP := Lib.hid (HP.out.kept hb)
    clear hq
    have HB := Lib.hid (up_later HB.out hb)
    have B1 := Lib.hid (B1.out.kept hb)
    have HPL := Lib.hid (HPL.out.kept hb)
    clear hb
    have BB := B1.out
    have cB := fun i => BB.cell i
    have fB := fun i => BB.free i
    have lB := BB.lt
    have mB := Nat.lt_succ_of_lt lB
    go_wp2_with fail
    clear cB fB lB mB BB
    refine (ProvePlan_any _ _ _ _ b ls most l ch _ HQ.out HP.out HMV.out).mono ?_
    rintro e w3 ⟨rfl, hb⟩
    rw [HPB.out]
    clear HQ HP HMV
    have HB := Lib.hid (up_later HB.out hb)
    have B1 := Lib.hid (B1.out.kept hb)
    have HPL := Lib.hid (HPL.out.kept hb)
    clear hb
    have BB := B1.out
    have cB := fun i => BB.cell i
    have fB := fun i => BB.free i
    have lB := BB.lt
    have mB := Nat.lt_succ_of_lt lB
    go_wp2_with fail
    clear cB fB lB mB BB
    refine (lossy_any _ _ _ b ls _ (HL.out.kept HB.out) (HV.out.kept HB.out)).mono ?_
    rintro e w5 ⟨rfl, hb⟩
    rw [HE.out]
    have HB := Lib.hid (up_later HB.out hb)
    have B1 := Lib.hid (B1.out.kept hb)
    have HPL := Lib.hid (HPL.out.kept hb)
    clear hb
    have BB := B1.out
    have cB := fun i => BB.cell i
    have fB := fun i => BB.free i
    have lB := BB.lt
    have mB := Nat.lt_succ_of_lt lB
    go_wp2_with fail
    clear cB fB lB mB BB
    refine (In_b most 0 8 false _ HIn.out).mono ?_
    rintro e w6 ⟨rfl, hb⟩
    have HB := Lib.hid (up_later HB.out hb)
    have B1 := Lib.hid (B1.out.kept hb)
    have HPL := Lib.hid (HPL.out.kept hb)
    clear hb
    have BB := B1.out
    have cB := fun i => BB.cell i
    have fB := fun i => BB.free i
    have lB := BB.lt
    have mB := Nat.lt_succ_of_lt lB
    go_wp2_with fail
    clear cB fB lB mB BB
    refine (awake_any _).mono ?_
    rintro e w9 ⟨rfl, hb⟩
    go_wp2_with fail
    go_ret
    exact ⟨rfl, up_later HB.out hb⟩
  | true =>
    have HIn := Lib.hid (show inB 0 8 most = true by rw [← cm]; simp only [inB, belowB]; congr 1; rw [decide_eq_decide]; omega)
    have h0 : 0 ≤ most := (belowB_iff.1 cm).1
    obtain ⟨L, N, E, B, f, hPl, hBN, hcase⟩ : ∃ L N E B f, planE b ls most = (L, N, E) ∧ bestN b ls most (b.ks.length ^ b.ds.length) = (B, f) ∧ ((E = 10 ∧ N = 0 ∧ L = [] ∧ f = false) ∨ (E = 0 ∧ f = true ∧ B = L ∧ chL (-1) L = N ∧ ∀ x ∈ L, 0 ≤ x)) := by
      have ha := bestN_all (ls := ls) (most := most) hok h0
      by_cases c8 : (bestI b ls most).2 = 8
      · rw [if_pos c8] at ha
        exact ⟨[], 0, 10, [], false, by unfold planE; rw [if_neg (by simpa using cD), if_neg (by rw [cm]; simp), if_pos c8], ha, .inl ⟨rfl, rfl, rfl, rfl⟩⟩
      · rw [if_neg c8] at ha
        obtain ⟨r1, r2, r3⟩ := best_right hok h0 c8
        exact ⟨_, _, _, _, true, by unfold planE; rw [if_neg (by simpa using cD), if_neg (by rw [cm]; simp), if_neg c8], ha, .inr ⟨rfl, rfl, rfl, r2, r3⟩⟩
    have HPl := Lib.hid hPl
    have HBN := Lib.hid hBN
    have Hcase := Lib.hid hcase
    have HPB := Lib.hid (show proveB b ls most l ch = (rightB b ls most l && decide (chL (-1) l ≤ ch)) by unfold proveB; rw [cm, decide_eq_true cD]; simp)
    obtain ⟨rt, hrt⟩ : ∃ rt, rightB b ls most l = rt := ⟨_, rfl⟩
    rw [hrt] at HPB
    have HRt := Lib.hid hrt
    have HLn := Lib.hid (show rt = true → ∀ x ∈ l, 0 ≤ x from fun h x hx => by
      rw [h] at hrt
      obtain ⟨p, hp⟩ := right_nat hrt
      rw [hp] at hx
      obtain ⟨k, _, rfl⟩ := List.mem_map.1 hx
      omega)
    obtain ⟨cl, hcl⟩ : ∃ cl, chL (-1) l = cl := ⟨_, rfl⟩
    rw [hcl] at HPB
    have HCl := Lib.hid hcl
    clear cF hok cD cm hPl hBN hcase hrt hcl
    go_enter Try.func6, Try.ntmps6
    go_wp2_with fail
    refine (Thin_any _ _ _ _ _ _ _ _ _ (by omega) (by omega)).mono ?_
    rintro e w1 ⟨rfl, hb⟩
    rw [HT.out]
    have HB := Lib.hid (up_later (up_alloc (up0 (w := w)) (.cells #[iv b.n, iv b.w, .slice A1 b.ks.length cap1, .slice A2 b.ds.length cap2] 25)) hb)
    have B1 := Lib.hid ((Box.new (w := w) (t := 25) (cs := #[iv b.n, iv b.w, .slice A1 b.ks.length cap1, .slice A2 b.ds.length cap2]) rfl).kept hb)
    clear hb
    have BB := B1.out
    have cB := fun i => BB.cell i
    have fB := fun i => BB.free i
    have lB := BB.lt
    have mB := Nat.lt_succ_of_lt lB
    go_wp2_with fail
    clear cB fB lB mB BB
    refine (Lfault_any _ _ b _ (HL.out.kept HB.out)).mono ?_
    rintro e w2 ⟨rfl, hb⟩
    rw [HF.out]
    have HB := Lib.hid (up_later HB.out hb)
    have B1 := Lib.hid (B1.out.kept hb)
    clear hb
    have BB := B1.out
    have cB := fun i => BB.cell i
    have fB := fun i => BB.free i
    have lB := BB.lt
    have mB := Nat.lt_succ_of_lt lB
    go_wp2_with fail
    clear cB fB lB mB BB
    refine (RMany_any _ _ b _ (HL.out.kept HB.out) hk5 hd8).mono ?_
    rintro e w2 ⟨rfl, hb⟩
    rw [HM.out]
    have HB := Lib.hid (up_later HB.out hb)
    have B1 := Lib.hid (B1.out.kept hb)
    clear hb
    have BB := B1.out
    have cB := fun i => BB.cell i
    have fB := fun i => BB.free i
    have lB := BB.lt
    have mB := Nat.lt_succ_of_lt lB
    go_wp2_with fail
    clear cB fB lB mB BB
    refine (Book_any _ _ b _ (HL.out.kept HB.out)).mono ?_
    rintro e w2 ⟨a1, a2, rfl, hq, hb⟩
    have HQ := Lib.hid hq
    clear hq
    have HB := Lib.hid (up_later HB.out hb)
    have B1 := Lib.hid (B1.out.kept hb)
    clear hb
    unfold bookV
    have BB := B1.out
    have cB := fun i => BB.cell i
    have fB := fun i => BB.free i
    have lB := BB.lt
    have mB := Nat.lt_succ_of_lt lB
    go_wp2_with fail
    clear cB fB lB mB BB
    refine (Losses_any _ ls _ (HV.out.kept HB.out)).mono ?_
    rintro e w3 ⟨lv, rfl, hq, hb⟩
    have HP := Lib.hid hq
    have HQ := Lib.hid (HQ.out.kept hb)
    clear hq
    have HB := Lib.hid (up_later HB.out hb)
    have B1 := Lib.hid (B1.out.kept hb)
    clear hb
    have BB := B1.out
    have cB := fun i => BB.cell i
    have fB := fun i => BB.free i
    have lB := BB.lt
    have mB := Nat.lt_succ_of_lt lB
    go_wp2_with fail
    clear cB fB lB mB BB
    refine (Plan_any _ _ _ b ls most _ HQ.out HP.out).mono ?_
    rintro e w4 ⟨pv, rfl, hq, hb⟩
    rw [HPl.out] at hq ⊢
    obtain ⟨_, Ap, cp, rfl, _, _⟩ := hq.form
    have HPL := Lib.hid hq
    clear hq HQ HP
    have HB := Lib.hid (up_later HB.out hb)
    have B1 := Lib.hid (B1.out.kept hb)
    clear hb
    have BB := B1.out
    have cB := fun i => BB.cell i
    have fB := fun i => BB.free i
    have lB := BB.lt
    have mB := Nat.lt_succ_of_lt lB
    go_wp2_with fail
    clear cB fB lB mB BB
    refine (Book_any _ _ b _ (HL.out.kept HB.out)).mono ?_
    rintro e w2 ⟨a1, a2, rfl, hq, hb⟩
    have HQ := Lib.hid hq
    clear hq
    have HB := Lib.hid (up_later HB.out hb)
    have B1 := Lib.hid (B1.out.kept hb)
    have HPL := Lib.hid (HPL.out.kept hb)
    clear hb
    unfold bookV
    have BB := B1.out
    have cB := fun i => BB.cell i
    have fB := fun i => BB.free i
    have lB := BB.lt
    have mB := Nat.lt_succ_of_lt lB
    go_wp2_with fail
    clear cB fB lB mB BB
    refine (Losses_any _ ls _ (HV.out.kept HB.out)).mono ?_
    rintro e w3 ⟨lv, rfl, hq, hb⟩
    have HP := Lib.hid hq
    have HQ := Lib.hid (HQ.out.kept hb)
    clear hq
    have HB := Lib.hid (up_later HB.out hb)
    have B1 := Lib.hid (B1.out.kept hb)
    have HPL := Lib.hid (HPL.out.kept hb)
    clear hb
    have BB := B1.out
    have cB := fun i => BB.cell i
    have fB := fun i => BB.free i
    have lB := BB.lt
    have mB := Nat.lt_succ_of_lt lB
    go_wp2_with fail
    clear cB fB lB mB BB
    refine (list_any _ l _ (HX.out.kept HB.out)).mono ?_
    rintro e w3 ⟨mv, rfl, hq, hb⟩
    have HMV := Lib.hid hq
    have HQ := Lib.hid (HQ.out.kept hb)
    have HP := Lib.hid (HP.out.kept hb)
    clear hq
    have HB := Lib.hid (up_later HB.out hb)
    have B1 := Lib.hid (B1.out.kept hb)
    have HPL := Lib.hid (HPL.out.kept hb)
    clear hb
    have BB := B1.out
    have cB := fun i => BB.cell i
    have fB := fun i => BB.free i
    have lB := BB.lt
    have mB := Nat.lt_succ_of_lt lB
    go_wp2_with fail
    clear cB fB lB mB BB
    refine (ProvePlan_any _ _ _ _ b ls most l ch _ HQ.out HP.out HMV.out).mono ?_
    rintro e w3 ⟨rfl, hb⟩
    rw [HPB.out]
    clear HQ HP HMV
    have HB := Lib.hid (up_later HB.out hb)
    have B1 := Lib.hid (B1.out.kept hb)
    have HPL := Lib.hid (HPL.out.kept hb)
    clear hb
    have BB := B1.out
    have cB := fun i => BB.cell i
    have fB := fun i => BB.free i
    have lB := BB.lt
    have mB := Nat.lt_succ_of_lt lB
    go_wp2_with fail
    clear cB fB lB mB BB
    refine (lossy_any _ _ _ b ls _ (HL.out.kept HB.out) (HV.out.kept HB.out)).mono ?_
    rintro e w5 ⟨rfl, hb⟩
    rw [HE.out]
    have HB := Lib.hid (up_later HB.out hb)
    have B1 := Lib.hid (B1.out.kept hb)
    have HPL := Lib.hid (HPL.out.kept hb)
    clear hb
    have BB := B1.out
    have cB := fun i => BB.cell i
    have fB := fun i => BB.free i
    have lB := BB.lt
    have mB := Nat.lt_succ_of_lt lB
    go_wp2_with fail
    clear cB fB lB mB BB
    refine (In_b most 0 8 true _ HIn.out).mono ?_
    rintro e w6 ⟨rfl, hb⟩
    have HB := Lib.hid (up_later HB.out hb)
    have B1 := Lib.hid (B1.out.kept hb)
    have HPL := Lib.hid (HPL.out.kept hb)
    clear hb
    have BB := B1.out
    have cB := fun i => BB.cell i
    have fB := fun i => BB.free i
    have lB := BB.lt
    have mB := Nat.lt_succ_of_lt lB
    go_wp2_with fail
    clear cB fB lB mB BB
    refine (RIsRight_any _ _ _ _ b ls most l _ h0 hk5 (HL.out.kept HB.out) (HV.out.kept HB.out) (HX.out.kept HB.out)).mono ?_
    rintro e w6 ⟨rfl, hb⟩
    rw [HRt.out]
    have HB := Lib.hid (up_later HB.out hb)
    have B1 := Lib.hid (B1.out.kept hb)
    have HPL := Lib.hid (HPL.out.kept hb)
    clear hb
    cases rt with
    | false =>
      have BB := B1.out
      have cB := fun i => BB.cell i
      have fB := fun i => BB.free i
      have lB := BB.lt
      have mB := Nat.lt_succ_of_lt lB
      go_wp2_with fail
      clear cB fB lB mB BB
      refine (RPlan_any _ _ _ b ls most _ HOK.out h0 (HL.out.kept HB.out) (HV.out.kept HB.out)).mono ?_
      rintro e w8 ⟨u, rfl, hq, hb⟩
      rw [HBN.out] at hq ⊢
      obtain ⟨_, Au, cu, rfl, _, _⟩ := hq.form
      have HU := Lib.hid hq
      clear hq
      have HB := Lib.hid (up_later HB.out hb)
      have B1 := Lib.hid (B1.out.kept hb)
      have HPL := Lib.hid (HPL.out.kept hb)
      clear hb
      rcases Hcase.out with ⟨rfl, rfl, rfl, rfl⟩ | ⟨rfl, rfl, rfl, hc2, hc3⟩
      · clear Hcase
        have BB := B1.out
        have cB := fun i => BB.cell i
        have fB := fun i => BB.free i
        have lB := BB.lt
        have mB := Nat.lt_succ_of_lt lB
        go_wp2_with fail
        clear cB fB lB mB BB
        refine (awake_any _).mono ?_
        rintro e w9 ⟨rfl, hb⟩
        go_wp2_with fail
        go_ret
        exact ⟨rfl, up_later HB.out hb⟩
      · have Hc2 := Lib.hid hc2
        have Hc3 := Lib.hid hc3
        clear Hcase hc2 hc3
        have BB := B1.out
        have cB := fun i => BB.cell i
        have fB := fun i => BB.free i
        have lB := BB.lt
        have mB := Nat.lt_succ_of_lt lB
        go_wp2_with fail
        clear cB fB lB mB BB
        refine (RChanges_any _ B _ HU.out Hc3.out).mono ?_
        rintro e w9 ⟨rfl, hb⟩
        rw [Hc2.out]
        have HU := Lib.hid (HU.out.kept hb)
        have HB := Lib.hid (up_later HB.out hb)
        have B1 := Lib.hid (B1.out.kept hb)
        have HPL := Lib.hid (HPL.out.kept hb)
        clear hb
        have BB := B1.out
        have cB := fun i => BB.cell i
        have fB := fun i => BB.free i
        have lB := BB.lt
        have mB := Nat.lt_succ_of_lt lB
        go_wp2_with fail
        clear cB fB lB mB BB
        refine (same_any _ _ B B _ HPL.out HU.out).mono ?_
        rintro e w9 ⟨rfl, hb⟩
        rw [decide_eq_true (p := B = B) rfl]
        have HB := Lib.hid (up_later HB.out hb)
        clear hb
        go_wp2_with fail
        refine (awake_any _).mono ?_
        rintro e w9 ⟨rfl, hb⟩
        go_wp2_with fail
        go_ret
        exact ⟨rfl, up_later HB.out hb⟩
    | true =>
      by_cases hcc : cl ≤ ch
      · clear HPB
        have BB := B1.out
        have cB := fun i => BB.cell i
        have fB := fun i => BB.free i
        have lB := BB.lt
        have mB := Nat.lt_succ_of_lt lB
        go_wp2_with fail
        clear cB fB lB mB BB
        refine (RChanges_any _ l _ (HX.out.kept HB.out) (HLn.out (by trivial))).mono ?_
        rintro e w7 ⟨rfl, hb⟩
        rw [HCl.out]
        have HB := Lib.hid (up_later HB.out hb)
        have B1 := Lib.hid (B1.out.kept hb)
        have HPL := Lib.hid (HPL.out.kept hb)
        clear hb
        have BB := B1.out
        have cB := fun i => BB.cell i
        have fB := fun i => BB.free i
        have lB := BB.lt
        have mB := Nat.lt_succ_of_lt lB
        go_wp2_with fail
        clear cB fB lB mB BB
        refine (RPlan_any _ _ _ b ls most _ HOK.out h0 (HL.out.kept HB.out) (HV.out.kept HB.out)).mono ?_
        rintro e w8 ⟨u, rfl, hq, hb⟩
        rw [HBN.out] at hq ⊢
        obtain ⟨_, Au, cu, rfl, _, _⟩ := hq.form
        have HU := Lib.hid hq
        clear hq
        have HB := Lib.hid (up_later HB.out hb)
        have B1 := Lib.hid (B1.out.kept hb)
        have HPL := Lib.hid (HPL.out.kept hb)
        clear hb
        rcases Hcase.out with ⟨rfl, rfl, rfl, rfl⟩ | ⟨rfl, rfl, rfl, hc2, hc3⟩
        · clear Hcase
          have BB := B1.out
          have cB := fun i => BB.cell i
          have fB := fun i => BB.free i
          have lB := BB.lt
          have mB := Nat.lt_succ_of_lt lB
          go_wp2_with fail
          clear cB fB lB mB BB
          refine (awake_any _).mono ?_
          rintro e w9 ⟨rfl, hb⟩
          go_wp2_with fail
          go_ret
          exact ⟨rfl, up_later HB.out hb⟩
        · have Hc2 := Lib.hid hc2
          have Hc3 := Lib.hid hc3
          clear Hcase hc2 hc3
          have BB := B1.out
          have cB := fun i => BB.cell i
          have fB := fun i => BB.free i
          have lB := BB.lt
          have mB := Nat.lt_succ_of_lt lB
          go_wp2_with fail
          clear cB fB lB mB BB
          refine (RChanges_any _ B _ HU.out Hc3.out).mono ?_
          rintro e w9 ⟨rfl, hb⟩
          rw [Hc2.out]
          have HU := Lib.hid (HU.out.kept hb)
          have HB := Lib.hid (up_later HB.out hb)
          have B1 := Lib.hid (B1.out.kept hb)
          have HPL := Lib.hid (HPL.out.kept hb)
          clear hb
          have BB := B1.out
          have cB := fun i => BB.cell i
          have fB := fun i => BB.free i
          have lB := BB.lt
          have mB := Nat.lt_succ_of_lt lB
          go_wp2_with fail
          clear cB fB lB mB BB
          refine (same_any _ _ B B _ HPL.out HU.out).mono ?_
          rintro e w9 ⟨rfl, hb⟩
          rw [decide_eq_true (p := B = B) rfl]
          have HB := Lib.hid (up_later HB.out hb)
          clear hb
          go_wp2_with fail
          refine (awake_any _).mono ?_
          rintro e w9 ⟨rfl, hb⟩
          go_wp2_with fail
          go_ret
          exact ⟨rfl, up_later HB.out hb⟩
      · have hcc2 := Int.not_le.1 hcc
        have BB := B1.out
        have cB := fun i => BB.cell i
        have fB := fun i => BB.free i
        have lB := BB.lt
        have mB := Nat.lt_succ_of_lt lB
        go_wp2_with fail
        clear cB fB lB mB BB
        refine (RChanges_any _ l _ (HX.out.kept HB.out) (HLn.out (by trivial))).mono ?_
        rintro e w7 ⟨rfl, hb⟩
        rw [HCl.out]
        have HB := Lib.hid (up_later HB.out hb)
        have B1 := Lib.hid (B1.out.kept hb)
        have HPL := Lib.hid (HPL.out.kept hb)
        clear hb
        have BB := B1.out
        have cB := fun i => BB.cell i
        have fB := fun i => BB.free i
        have lB := BB.lt
        have mB := Nat.lt_succ_of_lt lB
        go_wp2_with fail
        clear cB fB lB mB BB
        refine (RPlan_any _ _ _ b ls most _ HOK.out h0 (HL.out.kept HB.out) (HV.out.kept HB.out)).mono ?_
        rintro e w8 ⟨u, rfl, hq, hb⟩
        rw [HBN.out] at hq ⊢
        obtain ⟨_, Au, cu, rfl, _, _⟩ := hq.form
        have HU := Lib.hid hq
        clear hq
        have HB := Lib.hid (up_later HB.out hb)
        have B1 := Lib.hid (B1.out.kept hb)
        have HPL := Lib.hid (HPL.out.kept hb)
        clear hb
        rcases Hcase.out with ⟨rfl, rfl, rfl, rfl⟩ | ⟨rfl, rfl, rfl, hc2, hc3⟩
        · clear Hcase
          have BB := B1.out
          have cB := fun i => BB.cell i
          have fB := fun i => BB.free i
          have lB := BB.lt
          have mB := Nat.lt_succ_of_lt lB
          go_wp2_with fail
          clear cB fB lB mB BB
          refine (awake_any _).mono ?_
          rintro e w9 ⟨rfl, hb⟩
          go_wp2_with fail
          go_ret
          exact ⟨rfl, up_later HB.out hb⟩
        · have Hc2 := Lib.hid hc2
          have Hc3 := Lib.hid hc3
          clear Hcase hc2 hc3
          have BB := B1.out
          have cB := fun i => BB.cell i
          have fB := fun i => BB.free i
          have lB := BB.lt
          have mB := Nat.lt_succ_of_lt lB
          go_wp2_with fail
          clear cB fB lB mB BB
          refine (RChanges_any _ B _ HU.out Hc3.out).mono ?_
          rintro e w9 ⟨rfl, hb⟩
          rw [Hc2.out]
          have HU := Lib.hid (HU.out.kept hb)
          have HB := Lib.hid (up_later HB.out hb)
          have B1 := Lib.hid (B1.out.kept hb)
          have HPL := Lib.hid (HPL.out.kept hb)
          clear hb
          have BB := B1.out
          have cB := fun i => BB.cell i
          have fB := fun i => BB.free i
          have lB := BB.lt
          have mB := Nat.lt_succ_of_lt lB
          go_wp2_with fail
          clear cB fB lB mB BB
          refine (same_any _ _ B B _ HPL.out HU.out).mono ?_
          rintro e w9 ⟨rfl, hb⟩
          rw [decide_eq_true (p := B = B) rfl]
          have HB := Lib.hid (up_later HB.out hb)
          clear hb
          go_wp2_with fail
          refine (awake_any _).mono ?_
          rintro e w9 ⟨rfl, hb⟩
          go_wp2_with fail
          go_ret
          exact ⟨rfl, up_later HB.out hb⟩
end Go.Proofs.Ytoenhkhfpbglhaa

namespace Go.Proofs.Ytoenhkhfpbglhaa
open Go.RowKit Go.Shelf
attribute [local go_sem] Oper.semAt_some
set_option maxRecDepth 100000 in
set_option maxHeartbeats 2000000 in
theorem plans_law (v1 v2 : Value) (b : Bk) (v3 : Value) (ls : List Ls) (most : Int) (v4 : Value) (l : List Int) (ch : Int) (w : World) (hL : BookAny w v1 v2 b) (hl : RowsAny w v3 2 Ls.cells ls) (hx : RowsAny w v4 1 ic l) :
    Calls Try.prog 6 #[.agg #[iv b.n, iv b.w, v1, v2], v3, iv most, v4, iv ch] w fun e w' => e = .returned (.bool true) ∧ Below w.heap.size w w' := by
  obtain ⟨A1, cap1, rfl, g1, g2⟩ := hL.ks.form
  obtain ⟨A2, cap2, rfl, g3, g4⟩ := hL.ds.form
  obtain ⟨A3, cap3, rfl, g5, g6⟩ := hl.form
  obtain ⟨A4, cap4, rfl, g7, g8⟩ := hx.form
  cases hT : (decide (b.ks.length ≤ 8) && decide (b.ds.length ≤ 11)) with
  | false =>
    have HT := Lib.hid hT
    clear hT hL hl hx
    go_enter Try.func6, Try.ntmps6
    go_wp2_with fail
    refine (Thin_any _ _ _ _ _ _ _ _ _ (by omega) (by omega)).mono ?_
    rintro e w1 ⟨rfl, hb⟩
    rw [HT.out]
    have HB := Lib.hid (up_later (up_alloc (up0 (w := w)) (.cells #[iv b.n, iv b.w, .slice A1 b.ks.length cap1, .slice A2 b.ds.length cap2] 25)) hb)
    have B1 := Lib.hid ((Box.new (w := w) (t := 25) (cs := #[iv b.n, iv b.w, .slice A1 b.ks.length cap1, .slice A2 b.ds.length cap2]) rfl).kept hb)
    clear hb
    have BB := B1.out
    have cB := fun i => BB.cell i
    have fB := fun i => BB.free i
    have lB := BB.lt
    have mB := Nat.lt_succ_of_lt lB
    go_wp2_with fail
    clear cB fB lB mB BB
    refine (awake_any _).mono ?_
    rintro e w9 ⟨rfl, hb⟩
    go_wp2_with fail
    go_ret
    exact ⟨rfl, up_later HB.out hb⟩
  | true =>
  have h8 : b.ks.length ≤ 8 ∧ b.ds.length ≤ 11 := by simpa using hT
  have HT := Lib.hid hT
  by_cases c9 : 9 < ls.length
  · have n9 : (9 : Int) < (ls.length : Int) := by omega
    clear hT hL hl hx h8
    go_enter Try.func6, Try.ntmps6
    go_wp2_with fail
    refine (Thin_any _ _ _ _ _ _ _ _ _ (by omega) (by omega)).mono ?_
    rintro e w1 ⟨rfl, hb⟩
    rw [HT.out]
    have HB := Lib.hid (up_later (up_alloc (up0 (w := w)) (.cells #[iv b.n, iv b.w, .slice A1 b.ks.length cap1, .slice A2 b.ds.length cap2] 25)) hb)
    have B1 := Lib.hid ((Box.new (w := w) (t := 25) (cs := #[iv b.n, iv b.w, .slice A1 b.ks.length cap1, .slice A2 b.ds.length cap2]) rfl).kept hb)
    clear hb
    have BB := B1.out
    have cB := fun i => BB.cell i
    have fB := fun i => BB.free i
    have lB := BB.lt
    have mB := Nat.lt_succ_of_lt lB
    go_wp2_with fail
    clear cB fB lB mB BB
    refine (awake_any _).mono ?_
    rintro e w9 ⟨rfl, hb⟩
    go_wp2_with fail
    go_ret
    exact ⟨rfl, up_later HB.out hb⟩
  by_cases c11 : 11 < l.length
  · have n9 : ¬ (9 : Int) < (ls.length : Int) := by omega
    have n11 : (11 : Int) < (l.length : Int) := by omega
    clear hT hL hl hx h8
    go_enter Try.func6, Try.ntmps6
    go_wp2_with fail
    refine (Thin_any _ _ _ _ _ _ _ _ _ (by omega) (by omega)).mono ?_
    rintro e w1 ⟨rfl, hb⟩
    rw [HT.out]
    have HB := Lib.hid (up_later (up_alloc (up0 (w := w)) (.cells #[iv b.n, iv b.w, .slice A1 b.ks.length cap1, .slice A2 b.ds.length cap2] 25)) hb)
    have B1 := Lib.hid ((Box.new (w := w) (t := 25) (cs := #[iv b.n, iv b.w, .slice A1 b.ks.length cap1, .slice A2 b.ds.length cap2]) rfl).kept hb)
    clear hb
    have BB := B1.out
    have cB := fun i => BB.cell i
    have fB := fun i => BB.free i
    have lB := BB.lt
    have mB := Nat.lt_succ_of_lt lB
    go_wp2_with fail
    clear cB fB lB mB BB
    refine (awake_any _).mono ?_
    rintro e w9 ⟨rfl, hb⟩
    go_wp2_with fail
    go_ret
    exact ⟨rfl, up_later HB.out hb⟩
  exact plans_thin A1 A2 A3 A4 cap1 cap2 cap3 cap4 b ls most l ch w h8 (by omega) (by omega) (hL.at h8.1 h8.2) (hl.rows (by omega)) (hx.rows (by omega))
end Go.Proofs.Ytoenhkhfpbglhaa

namespace Go.Proofs.Ytoenhkhfpbglhaa
open Go.ChangeShapes Go.WideShapes Go.ChangeAt Go.RowKit

set_option maxRecDepth 100000 in
theorem cipherPlans_lifted (os : Os) (started : os.Started) (H : Type) (enc : TypeId × Value → H) :
    ReturnsInHanded {} Try.checked os 6 .any (Rows.cipherPlansSpec.pre6 enc Try.prog Try.f6 Rows.cipherPlansRow.domain false) (Rows.cipherPlansSpec.post enc Try.prog Try.f6 false true false false) := by
  refine returnsInHanded_of_change (C := Try.checked) own_knob started (by kernel_rfl) Try.func6
    (ChangeSpec.witness6 (enc := enc) (C := Try.checked) false ⟨#[], #[.agg #[.int .i64 0, .int .i64 0, .slice Option.none 0 0, .slice Option.none 0 0], .slice Option.none 0 0, .int .i64 0, .slice Option.none 0 0, .int .i64 0], []⟩ 8 (by kernel_rfl) (by kernel_rfl) (by kernel_rfl) (by kernel_rfl)) ?_
  intro W base args ds gs before hval0 hW hcnd _
  have hval : ∀ (j : Nat) t v, Try.f6.params[j]? = some t → args[j]? = some v → Value.okWide Try.prog W .any base t v := hval0
  have hW' := hW
  obtain ⟨p, q, hA0, hV, rfl, hfz, hnd⟩ := hW
  have hA : DataW.TrodAll enc Try.prog W 0 (fun _ => true) true Try.f6.params.toList args.toList ds p := hA0
  rw [Try.params6] at hA hval
  have hlt : ∀ x ∈ p, x.block < W.heap.size := fun x hx => hW'.lt x (List.mem_append_left _ hx)
  have hAk := hA
  obtain ⟨v0, vs0, d0, ds0, p0, q0, hargs, rfl, rfl, h0, r0⟩ := trodAll_cons hA
  obtain ⟨v1, vs1, d1, ds1, p1, q1, rfl, rfl, rfl, h1, r1⟩ := trodAll_cons r0
  obtain ⟨v2, vs2, d2, ds2, p2, q2, rfl, rfl, rfl, h2, r2⟩ := trodAll_cons r1
  obtain ⟨v3, vs3, d3, ds3, p3, q3, rfl, rfl, rfl, h3, r3⟩ := trodAll_cons r2
  obtain ⟨v4, vs4, d4, ds4, p4, q4, rfl, rfl, rfl, h4, r4⟩ := trodAll_cons r3
  obtain ⟨rfl, rfl, rfl⟩ := trodAll_nil r4
  obtain rfl : args = #[v0, v1, v2, v3, v4] := by cases args; simp_all
  obtain ⟨rfl, rfl⟩ := trodVars_none hV
  obtain ⟨a2, rfl, rfl, rfl, w2⟩ := open_int Try.underlying3 (hval 2 3 v2 rfl rfl) h2
  obtain ⟨a4, rfl, rfl, rfl, w4⟩ := open_int Try.underlying3 (hval 4 3 v4 rfl rfl) h4
  obtain ⟨cs, rfl, _⟩ := okWide_struct und25 (hval 0 25 v0 rfl rfl)
  obtain ⟨fuel, h0⟩ := h0
  obtain ⟨u1, u2, b, hcs, hL⟩ := open_book h0
  obtain rfl : cs = #[iv b.n, iv b.w, u1, u2] := by
    have h : cs.toList = [iv b.n, iv b.w, u1, u2] := hcs
    cases cs
    simp at h
    rw [h]
  obtain ⟨ba1, len1, cap1, rfl⟩ := okWide_slice (show Try.prog.underlying 47 = some (.slice 93) by kernel_rfl) (hval 1 47 v1 rfl rfl)
  obtain ⟨fuel1, h1⟩ := h1
  obtain ⟨x1, l1, e1, hl1⟩ := open_losses h1
  obtain rfl : x1 = .slice ba1 len1 cap1 := by
    have h : [Value.slice ba1 len1 cap1] = [x1] := e1
    injection h with h _
    exact h.symm
  obtain ⟨ba3, len3, cap3, rfl⟩ := okWide_slice Try.underlying23 (hval 3 23 v3 rfl rfl)
  obtain ⟨fuel3, h3⟩ := h3
  obtain ⟨x3, l3, e3, hl3⟩ := open_list h3
  obtain rfl : x3 = .slice ba3 len3 cap3 := by
    have h : [Value.slice ba3 len3 cap3] = [x3] := e3
    injection h with h _
    exact h.symm
  clear hA0 hval0 hval hA
  simp only [List.append_nil] at hW'
  simp only [List.append_nil] at hAk hlt
  refine (plans_law u1 u2 b _ l1 a2 _ l3 a4 W hL hl1 hl3).mono fun e W' ⟨he, hg⟩ => ?_
  subst he
  refine ⟨_, rfl, post_below (pv := []) hW' hg (fun _ _ _ => (trodAll_cons_mk (shut_bool Try.underlying4 _) trodAll_mk0)) (fun sp hsp => ?_) (fun _ _ => rfl) (List.append_nil _).symm
    (ok_one (by kernel_rfl) rfl (okWide_bool_mk Try.underlying4 _))⟩
  rw [Try.params6]
  refine args_stay laid_out hg (fun t ht => ?_) hAk hlt sp (fun x hx => hsp x (by first | exact hx | simpa using hx))
  simp only [List.mem_cons, List.not_mem_nil, or_false] at ht
  rcases ht with rfl | rfl | rfl | rfl | rfl
  · exact ⟨by kernel_rfl, by have h : decide (25 < Try.prog.types.size) = true := (by kernel_rfl); exact of_decide_eq_true h⟩
  · exact ⟨by kernel_rfl, by have h : decide (47 < Try.prog.types.size) = true := (by kernel_rfl); exact of_decide_eq_true h⟩
  · exact ⟨by kernel_rfl, by have h : decide (3 < Try.prog.types.size) = true := (by kernel_rfl); exact of_decide_eq_true h⟩
  · exact ⟨by kernel_rfl, by have h : decide (23 < Try.prog.types.size) = true := (by kernel_rfl); exact of_decide_eq_true h⟩
  · exact ⟨by kernel_rfl, by have h : decide (3 < Try.prog.types.size) = true := (by kernel_rfl); exact of_decide_eq_true h⟩

theorem cipherPlans_over : Rows.cipherPlansRow.holds Try.pinned (OpenSpec.ofChange Rows.cipherPlansSpec) :=
  OpenClaim.holds_of_wide 6 Try.f6 rfl rfl rfl rfl rfl rfl rfl ⟨rfl, rfl, rfl, rfl, rfl⟩ rfl rfl rfl rfl rfl (by kernel_rfl) Try.func6 (by kernel_rfl)
    (of_decide_eq_true (by kernel_rfl)) (by unfold Func.isWrapper; first | (rw [if_pos (by decide +kernel)]; kernel_rfl) | (rw [if_neg (by decide +kernel)]; exact ⟨rfl, rfl⟩))
    (fun os started H enc _ => cipherPlans_lifted os started H enc)

theorem CipherPlans_holds : Rows.CipherPlansSaid := cipherPlans_over

end Go.Proofs.Ytoenhkhfpbglhaa

