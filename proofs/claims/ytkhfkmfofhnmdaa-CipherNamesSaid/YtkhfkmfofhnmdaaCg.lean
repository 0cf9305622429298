/-
  WALKS of '(cog).code', '(cog).plain', newCog. Conditions: the numbers are small.
-/
import Derived.Test.YtkhfkmfofhnmdaaCf
namespace Go.Proofs.Ytkhfkmfofhnmdaa
open Go.RowKit

/-- A key at work. -/
def cogV (n u : Int) (k : Ky) : Value := .agg #[iv k.m, iv k.a, iv k.s, iv n, iv u]

theorem code_wrap (n m a s p i : Int) (m1 : 0 ≤ m) (m2 : m ≤ 1000) (a1 : 0 ≤ a) (a2 : a ≤ 1000) (s1 : 0 ≤ s) (s2 : s ≤ 1000) (p1 : 0 ≤ p) (p2 : p ≤ 1000) (i1 : 0 ≤ i) (i2 : i ≤ 1000) :
    (wrap64 (wrap64 (wrap64 (m * p) + a) + wrap64 (i * s))).tmod n = (m * p + a + i * s) % n := by
  have h := mul_in m p 1000 1000 (by omega) (by omega) (by omega) (by omega)
  have h' := mul_in i s 1000 1000 (by omega) (by omega) (by omega) (by omega)
  have q := Int.mul_nonneg m1 p1
  have q' := Int.mul_nonneg i1 s1
  rw [wrap_in _ 1000000 (by omega) h, wrap_in _ 1000000 (by omega) h', wrap_in (m * p + a) 2000000 (by omega) (by omega), wrap_in (m * p + a + i * s) 3000000 (by omega) (by omega)]
  exact Int.tmod_eq_emod_of_nonneg (by omega)
theorem tmod_cases (t n : Int) (hn : 0 < n) : (t.tmod n < 0 → t.tmod n + n = t % n) ∧ (0 ≤ t.tmod n → t.tmod n = t % n) := by
  have e := Int.tmod_eq_emod (a := t) (b := n)
  have h1 := Int.emod_nonneg t (show n ≠ 0 by omega)
  have h2 := Int.emod_lt_of_pos t hn
  split at e <;> omega
theorem plain_wrap (n u a s c i : Int) (n1 : 1 ≤ n) (n2 : n ≤ 1000) (u1 : 0 ≤ u) (u2 : u ≤ 1000) (a1 : 0 ≤ a) (a2 : a ≤ 1000) (s1 : 0 ≤ s) (s2 : s ≤ 1000) (c1 : 0 ≤ c) (c2 : c ≤ 1000) (i1 : 0 ≤ i) (i2 : i ≤ 1000) :
    ((wrap64 (wrap64 (c - a - wrap64 (i * s)) * u)).tmod n < 0 → wrap64 ((wrap64 (wrap64 (c - a - wrap64 (i * s)) * u)).tmod n + n) = (c - a - i * s) * u % n) ∧ (0 ≤ (wrap64 (wrap64 (c - a - wrap64 (i * s)) * u)).tmod n → (wrap64 (wrap64 (c - a - wrap64 (i * s)) * u)).tmod n = (c - a - i * s) * u % n) := by
  have h := mul_in i s 1000 1000 (by omega) (by omega) (by omega) (by omega)
  have h' := mul_in (c - a - i * s) u 2000000 1000 (by omega) (by omega) (by omega) (by omega)
  rw [wrap_in _ 1000000 (by omega) h, wrap_in (c - a - i * s) 2000000 (by omega) (by omega), wrap_in _ 2000000000 (by omega) h']
  obtain ⟨e1, e2⟩ := tmod_cases ((c - a - i * s) * u) n (by omega)
  have r1 := Int.emod_nonneg ((c - a - i * s) * u) (show n ≠ 0 by omega)
  have r2 := Int.emod_lt_of_pos ((c - a - i * s) * u) (show 0 < n by omega)
  refine ⟨fun hn => ?_, e2⟩
  rw [wrap_in _ 1000 (by omega) (by have := e1 hn; omega)]
  exact e1 hn

set_option maxRecDepth 100000 in
set_option maxHeartbeats 1000000 in
theorem code_any (n u : Int) (k : Ky) (p i : Int) (w : World) (h1 : 1 ≤ n ∧ n ≤ 1000) (h2 : 0 ≤ k.m ∧ k.m ≤ 1000) (h3 : 0 ≤ k.a ∧ k.a ≤ 1000) (h4 : 0 ≤ k.s ∧ k.s ≤ 1000) (h5 : 0 ≤ p ∧ p ≤ 1000) (h6 : 0 ≤ i ∧ i ≤ 1000) :
    Calls Try.prog 110 #[cogV n u k, iv p, iv i] w fun r w' => r = .returned (.int .i64 (codeI n k p i)) ∧ Below w.heap.size w w' := by
  obtain ⟨m, a, s⟩ := k
  simp only at h2 h3 h4
  obtain ⟨n1, n2⟩ := h1
  obtain ⟨m1, m2⟩ := h2
  obtain ⟨a1, a2⟩ := h3
  obtain ⟨s1, s2⟩ := h4
  obtain ⟨p1, p2⟩ := h5
  obtain ⟨i1, i2⟩ := h6
  have hz : ¬ n = 0 := by omega
  have hz' : (n == 0) = false := by rw [beq_eq_false_iff_ne]; omega
  have H := Lib.hid (code_wrap n m a s p i m1 m2 a1 a2 s1 s2 p1 p2 i1 i2)
  unfold cogV codeI
  simp only
  go_enter Try.func110, Try.ntmps110
  go_wp2_with fail
  go_ret
  exact ⟨ret_int H.out, up_alloc up0 _⟩

set_option maxRecDepth 100000 in
set_option maxHeartbeats 1000000 in
theorem plain_any (n u : Int) (k : Ky) (c i : Int) (w : World) (h1 : 1 ≤ n ∧ n ≤ 1000) (hu : 0 ≤ u ∧ u ≤ 1000) (h3 : 0 ≤ k.a ∧ k.a ≤ 1000) (h4 : 0 ≤ k.s ∧ k.s ≤ 1000) (h5 : 0 ≤ c ∧ c ≤ 1000) (h6 : 0 ≤ i ∧ i ≤ 1000) (he : u = undoI k.m n) :
    Calls Try.prog 96 #[cogV n u k, iv c, iv i] w fun r w' => r = .returned (.int .i64 (plainI n k c i)) ∧ Below w.heap.size w w' := by
  obtain ⟨m, a, s⟩ := k
  simp only at h3 h4 he
  obtain ⟨n1, n2⟩ := h1
  obtain ⟨u1, u2⟩ := hu
  obtain ⟨a1, a2⟩ := h3
  obtain ⟨s1, s2⟩ := h4
  obtain ⟨c1, c2⟩ := h5
  obtain ⟨i1, i2⟩ := h6
  have hz : ¬ n = 0 := by omega
  have hz' : (n == 0) = false := by rw [beq_eq_false_iff_ne]; omega
  unfold cogV plainI
  simp only [← he]
  clear he
  go_enter Try.func96, Try.ntmps96
  go_wp2_with fail
  · rename_i hneg
    go_ret
    exact ⟨ret_int ((plain_wrap n u a s c i n1 n2 u1 u2 a1 a2 s1 s2 c1 c2 i1 i2).1 hneg), up_alloc up0 _⟩
  · rename_i hpos
    go_ret
    exact ⟨ret_int ((plain_wrap n u a s c i n1 n2 u1 u2 a1 a2 s1 s2 c1 c2 i1 i2).2 hpos), up_alloc up0 _⟩

theorem pow_wrap (x m n : Int) (n1 : 1 ≤ n) (n2 : n ≤ 1000) (x1 : 0 ≤ x) (x2 : x < n) (m1 : 0 ≤ m) (m2 : m ≤ 1000) : (wrap64 (x * m)).tmod n = x * m % n := by
  have h := mul_in x m 1000 1000 (by omega) (by omega) (by omega) (by omega)
  rw [wrap_in _ 1000000 (by omega) h]
  exact Int.tmod_eq_emod_of_nonneg (Int.mul_nonneg x1 m1)

set_option maxRecDepth 100000 in
set_option maxHeartbeats 1000000 in
theorem newCog_any (n : Int) (k : Ky) (w : World) (h1 : 2 ≤ n ∧ n ≤ 1000) (h2 : 0 ≤ k.m ∧ k.m ≤ 1000) :
    Calls Try.prog 111 #[.agg #[iv k.m, iv k.a, iv k.s], iv n] w fun r w' => r = .returned (cogV n (undoI k.m n) k) ∧ Below w.heap.size w w' := by
  obtain ⟨m, a, s⟩ := k
  simp only at h2
  obtain ⟨n1, n2⟩ := h1
  obtain ⟨m1, m2⟩ := h2
  have hz : ¬ n = 0 := by omega
  have hz' : (n == 0) = false := by rw [beq_eq_false_iff_ne]; omega
  unfold cogV
  simp only
  go_enter Try.func111, Try.ntmps111
  go_wp2_with fail
  have hB : Below w.heap.size w ((w.alloc (.cells #[iv m, iv a, iv s] 78)).alloc (.cells #[iv 0, iv 0, iv 0, iv 0, iv 0] 139)) := up_alloc (up_alloc up0 _) _
  have B2 := (Box.new (w := w) (t := 78) (cs := #[iv m, iv a, iv s]) rfl).alloc (.cells #[iv 0, iv 0, iv 0, iv 0, iv 0] 139)
  have B4 := Box.new (w := w.alloc (.cells #[iv m, iv a, iv s] 78)) (g := w.heap.size + 1) (t := 139) (cs := #[iv 0, iv 0, iv 0, iv 0, iv 0]) (by simp)
  go_loopw [5, 8] (fun u i wr => ∃ k : Nat, k ≤ (n - 2).toNat ∧ i = .int .i64 k ∧ u = .int .i64 (powI m n k) ∧ Below w.heap.size w wr ∧ Box wr w.heap.size 78 #[iv m, iv a, iv s] ∧ Box wr (w.heap.size + 1) 139 #[iv 0, iv 0, iv 0, iv 0, iv 0]) (fun _ i _ => (n - 2).toNat - (intOf i).toNat)
  case atStart => exact ⟨0, by omega, rfl, rfl, hB, B2, B4⟩
  case round =>
    clear hB B2 B4
    obtain ⟨j, hj, rfl, rfl, hB, B2, B4⟩ := hrel
    have c2 := fun i => B2.cell i
    have c4 := fun i => B4.cell i
    have f4 := fun i => B4.free i
    have l4 := B4.lt
    by_cases hlt : j < (n - 2).toNat
    · have hlt' : (j : Int) < n - 2 := by omega
      have hp := powI_in (m := m) (n := n) (by omega) (by omega) j
      have H := Lib.hid (pow_wrap (powI m n j) m n (by omega) n2 hp.1 hp.2 m1 m2)
      clear hp
      go_wp2_with fail
      go_roundw
      case rel => exact ⟨j + 1, by omega, by go_num, by rw [H.out]; rfl, hB, B2, B4⟩
      case measure => simp [intOf]; omega
    · have hlt' : ¬ (j : Int) < n - 2 := by omega
      have He := Lib.hid (show powI m n j = undoI m n by unfold undoI; rw [show j = (n - 2).toNat by omega])
      rw [He.out]
      go_wp2_with fail
      have N := Box.put5 (u0 := iv m) (u1 := iv a) (u2 := iv s) (u3 := iv n) (u4 := iv (undoI m n)) B4
      have cN := fun i => N.cell i
      refine bodyPost_ret (v := .agg #[iv m, iv a, iv s, iv n, iv (undoI m n)]) (by simp [results, Try.results111, go_sem, cN]) rfl ⟨rfl, ?_⟩
      exact up_put (up_put (up_put (up_put (up_put hB (by simp) _) (by simp) _) (by simp) _) (by simp) _) (by simp) _

end Go.Proofs.Ytkhfkmfofhnmdaa
