/-
  FlashTexts holds: the lift.
-/
import Derived.Test.YtonekgefegfapaaGreatQc
import Derived.BigRegion
import Derived.Test.YtonekgefegfapaaGreatQd
import Derived.Test.YtonekgefegfapaaGreatGr
namespace Go.Proofs.YtonekgefegfapaaGreat
open Go.RowKit

/-- The n-th text of k letters. -/
def dgs (m : Nat) : Nat → Nat → List Int
  | 0, _ => []
  | k + 1, n => ((n / m ^ k % m : Nat) : Int) :: dgs m k n
theorem dgs_len (m : Nat) : ∀ k n, (dgs m k n).length = k
  | 0, _ => rfl
  | k + 1, n => by unfold dgs; rw [List.length_cons, dgs_len m k n]
theorem letB_at {n : Nat} {x : Int} : letB n x = true ↔ 0 ≤ x ∧ x < (n : Int) := by
  unfold letB
  simp
theorem dgs_let {m : Nat} (hm : 0 < m) : ∀ k n, ∀ x ∈ dgs m k n, letB m x = true
  | 0, _, x, h => by cases h
  | k + 1, n, x, h => by
    unfold dgs at h
    rcases List.mem_cons.1 h with rfl | h
    · rw [letB_at]
      have := Nat.mod_lt (n / m ^ k) hm
      omega
    · exact dgs_let hm k n x h
theorem dgs_mod {m : Nat} (hm : 0 < m) : ∀ (k a n : Nat), dgs m k (a * m ^ k + n) = dgs m k n
  | 0, _, _ => rfl
  | k + 1, a, n => by
    have hp : 0 < m ^ k := Nat.pow_pos hm
    have e : a * m ^ (k + 1) + n = (a * m) * m ^ k + n := by rw [Nat.pow_succ, Nat.mul_comm (m ^ k) m, Nat.mul_assoc]
    unfold dgs
    rw [e, dgs_mod hm k (a * m) n, Nat.mul_comm (a * m) (m ^ k), Nat.mul_add_div hp, Nat.mul_comm a m, Nat.mul_add_mod]
theorem dgs_surj {m : Nat} (hm : 0 < m) : ∀ t : List Int, (∀ x ∈ t, letB m x = true) → ∃ n, n < m ^ t.length ∧ dgs m t.length n = t
  | [], _ => ⟨0, by simp, rfl⟩
  | x :: t, h => by
    obtain ⟨n, h1, h2⟩ := dgs_surj hm t fun y hy => h y (List.mem_cons_of_mem _ hy)
    have hx := letB_at.1 (h x (List.mem_cons_self ..))
    have hp : 0 < m ^ t.length := Nat.pow_pos hm
    refine ⟨x.toNat * m ^ t.length + n, ?_, ?_⟩
    · rw [List.length_cons, Nat.pow_succ]
      have : (x.toNat + 1) * m ^ t.length ≤ m * m ^ t.length := Nat.mul_le_mul_right _ (by omega)
      rw [Nat.add_mul, Nat.one_mul] at this
      rw [Nat.mul_comm (m ^ t.length) m]
      omega
    · rw [List.length_cons]
      unfold dgs
      rw [dgs_mod hm, h2, Nat.mul_comm, Nat.mul_add_div hp, Nat.div_eq_of_lt h1, Nat.add_zero, Nat.mod_eq_of_lt (by omega)]
      congr 1
      omega
theorem dgs_lt {m : Nat} (hm : 0 < m) : ∀ (k i j : Nat), i < j → j < m ^ k → ltL (dgs m k i) (dgs m k j)
  | 0, i, j, h, h2 => by simp at h2; omega
  | k + 1, i, j, h, h2 => by
    have hp : 0 < m ^ k := Nat.pow_pos hm
    have hjm : j / m ^ k < m := by
      rw [Nat.div_lt_iff_lt_mul hp, Nat.mul_comm, ← Nat.pow_succ]
      exact h2
    have hij : i / m ^ k ≤ j / m ^ k := Nat.div_le_div_right (by omega)
    unfold dgs ltL
    rw [Nat.mod_eq_of_lt hjm, Nat.mod_eq_of_lt (by omega)]
    by_cases he : i / m ^ k = j / m ^ k
    · refine .inr ⟨by rw [he], ?_⟩
      have ei := Nat.div_add_mod i (m ^ k)
      have ej := Nat.div_add_mod j (m ^ k)
      rw [Nat.mul_comm] at ei ej
      rw [← ei, ← ej, dgs_mod hm, dgs_mod hm]
      have hl := Nat.mod_lt j hp
      refine dgs_lt hm k _ _ ?_ hl
      rw [he] at ei
      omega
    · exact .inl (by omega)
def okB (l : List ByteArray) (R : By) (E : Nat) (t : List Int) : Bool := decide (fewI (sgnI l t) R (0, 0) ≤ E)
def rowT (l : List ByteArray) (R : By) (E L n : Nat) : List (List Int) := ((List.range n).map (dgs l.length L)).filter (okB l R E)
def outT (l : List ByteArray) (R : By) (E k : Nat) : List (List Int) := (List.range k).flatMap fun L => rowT l R E L (l.length ^ L)
theorem rowT_zero (l : List ByteArray) (R : By) (E L : Nat) : rowT l R E L 0 = [] := rfl
theorem rowT_succ (l : List ByteArray) (R : By) (E L n : Nat) : rowT l R E L (n + 1) = rowT l R E L n ++ if okB l R E (dgs l.length L n) then [dgs l.length L n] else [] := by
  unfold rowT
  rw [List.range_succ, List.map_append, List.filter_append, List.map_singleton, List.filter_cons, List.filter_nil]
theorem outT_succ (l : List ByteArray) (R : By) (E k : Nat) : outT l R E (k + 1) = outT l R E k ++ rowT l R E k (l.length ^ k) := by
  unfold outT
  rw [List.range_succ, List.flatMap_append]
  simp
theorem rowT_mem {l : List ByteArray} {R : By} {E L n : Nat} {t : List Int} : t ∈ rowT l R E L n ↔ (∃ i, i < n ∧ dgs l.length L i = t) ∧ fewI (sgnI l t) R (0, 0) ≤ E := by
  unfold rowT okB
  rw [List.mem_filter, List.mem_map, decide_eq_true_eq]
  simp only [List.mem_range]
theorem outT_mem {l : List ByteArray} {R : By} {E K : Nat} (hl : 0 < l.length) {t : List Int} : t ∈ outT l R E (K + 1) ↔ t.length ≤ K ∧ (∀ y ∈ t, letB l.length y = true) ∧ fewI (sgnI l t) R (0, 0) ≤ E := by
  unfold outT
  rw [List.mem_flatMap]
  constructor
  · rintro ⟨L, hL, h⟩
    obtain ⟨⟨i, hi, rfl⟩, h2⟩ := rowT_mem.1 h
    exact ⟨by rw [dgs_len]; have := List.mem_range.1 hL; omega, dgs_let hl _ _, h2⟩
  · rintro ⟨h1, h2, h3⟩
    obtain ⟨n, hn, e⟩ := dgs_surj hl t h2
    exact ⟨t.length, List.mem_range.2 (by omega), rowT_mem.2 ⟨⟨n, hn, e⟩, h3⟩⟩
theorem outT_len {l : List ByteArray} {R : By} {E k : Nat} {t : List Int} (h : t ∈ outT l R E k) : t.length < k := by
  unfold outT at h
  obtain ⟨L, hL, h⟩ := List.mem_flatMap.1 h
  obtain ⟨⟨i, hi, rfl⟩, h2⟩ := rowT_mem.1 h
  rw [dgs_len]
  exact List.mem_range.1 hL
theorem outT_sorted {l : List ByteArray} {R : By} {E : Nat} (hl : 0 < l.length) : ∀ k, (outT l R E k).Pairwise ltT
  | 0 => List.Pairwise.nil
  | k + 1 => by
    rw [outT_succ, List.pairwise_append]
    refine ⟨outT_sorted hl k, ?_, fun a ha b hb => ?_⟩
    · unfold rowT
      refine List.Pairwise.filter _ ?_
      rw [List.pairwise_map]
      refine (List.pairwise_lt_range (n := l.length ^ k)).imp_of_mem fun {a b} _ hb h => ?_
      exact .inr ⟨by rw [dgs_len, dgs_len], dgs_lt hl _ _ _ h (List.mem_range.1 hb)⟩
    · obtain ⟨⟨i, hi, rfl⟩, h2⟩ := rowT_mem.1 hb
      exact .inl (by rw [dgs_len]; exact outT_len ha)
/-- **The texts are those that the reference finds.** -/
theorem outT_is {l : List ByteArray} {R : By} {E K : Nat} {ts : List (List Int)} (hl : 0 < l.length) (hR : R.length ≤ 40) (hE : E < 120) (h : IsTexts l R E K ts) : ts = outT l R E (K + 1) := by
  have hs := outT_sorted (l := l) (R := R) (E := E) hl (K + 1)
  refine sorted_unique _ _ ((List.perm_ext_iff_of_nodup (texts_nodup h) ?_).2 fun t => ?_) h.2 (hs.imp fun h1 h2 => ltT_irrefl _ (ltT_trans h1 h2))
  · rw [List.nodup_iff_pairwise_ne]
    exact hs.imp fun h1 e => by subst e; exact ltT_irrefl _ h1
  · rw [texts_iff hR hE h, outT_mem hl]
theorem rowT_size (l : List ByteArray) (R : By) (E L n : Nat) : (rowT l R E L n).length ≤ n := by
  unfold rowT
  refine Nat.le_trans (List.length_filter_le _ _) ?_
  rw [List.length_map, List.length_range]
  exact Nat.le_refl _
theorem outT_size {l : List ByteArray} {R : By} {E : Nat} (hl : l.length ≤ 3) : ∀ k, k ≤ 4 → (outT l R E k).length ≤ k * 27
  | 0, _ => by simp [outT]
  | k + 1, h => by
    rw [outT_succ, List.length_append]
    have h1 := outT_size (l := l) (R := R) (E := E) hl k (by omega)
    have h2 := rowT_size l R E k (l.length ^ k)
    have h3 : l.length ^ k ≤ 3 ^ k := Nat.pow_le_pow_left hl k
    have h4 : 3 ^ k ≤ 3 ^ 3 := Nat.pow_le_pow_right (by decide) (by omega)
    omega
end Go.Proofs.YtonekgefegfapaaGreat

namespace Go.Proofs.YtonekgefegfapaaGreat
open Go.RowKit

/-- What stands in the text when so many letters are still to be written. -/
def nthC (m j k n : Nat) : List Value := List.replicate j (iv 0) ++ (dgs m k n).map iv
theorem nthC_put (m j k n : Nat) : (nthC m (j + 1) k n).toArray.setIfInBounds j (iv ((n / m ^ k % m : Nat) : Int)) = (nthC m j (k + 1) n).toArray := by
  unfold nthC
  rw [List.setIfInBounds_toArray]
  congr 1
  rw [List.replicate_succ', List.append_assoc, List.set_append_right _ _ (by simp)]
  simp [dgs]
theorem nthC_len (m j k n : Nat) : (nthC m j k n).length = j + k := by
  unfold nthC
  rw [List.length_append, List.length_replicate, List.length_map, dgs_len]
theorem nthC_at (m j k n : Nat) : (nthC m (j + 1) k n)[j]? = some (iv 0) := by
  unfold nthC
  rw [List.getElem?_append_left (by rw [List.length_replicate]; omega), List.getElem?_replicate, if_pos (by omega)]
theorem run_nth (w : World) (L : Nat) (h : L ≤ 3) : (Instr.makeSlice 25 (iv L) (iv L)).run Tryz.prog w = .ok (.slice (some ⟨w.heap.size, 0, none⟩) L L) (w.alloc (.cells (List.replicate L (iv 0)).toArray 3)) := by
  obtain rfl | rfl | rfl | rfl : L = 0 ∨ L = 1 ∨ L = 2 ∨ L = 3 := by omega
  · kernel_rfl
  · kernel_rfl
  · kernel_rfl
  · kernel_rfl
theorem own_of_box {w : World} {g n0 L : Nat} {cs : List Value} (h : Box w g 3 cs.toArray) (hg : n0 ≤ g) (hl : cs.length = L) (h3 : L ≤ 3) : w.ownsRow n0 3 1 (.slice (some ⟨g, 0, none⟩) L L) L cs := by
  refine ⟨by rw [hl]; omega, .inr ⟨g, L, _, rfl, hg, h, Nat.le_refl _, by unfold maxLen; omega, ?_, ?_⟩⟩
  · simp [hl]
  · simp [← hl]
set_option maxRecDepth 100000 in
set_option maxHeartbeats 1500000 in
theorem Nth_any (v : Value) (l : List ByteArray) (L n : Nat) (w : World) (hl : RowsAt w v 1 sc l) (hl0 : 0 < l.length) (hl3 : l.length ≤ 3) (hL : L ≤ 3) (hn : n ≤ 27) : Calls Tryz.prog 68 #[.agg #[v], iv L, iv n] w fun e w' => ∃ u, e = .returned u ∧ w'.ownsRow w.heap.size 3 1 u L ((dgs l.length L n).map iv) ∧ Below w.heap.size w w' := by
  obtain ⟨-, A, cap, hv, -, -⟩ := hl.form
  subst hv
  obtain ⟨m, hm⟩ : ∃ m, l.length = m := ⟨_, rfl⟩
  rw [hm] at hl0 hl3 ⊢
  clear hl hm
  have cz : ¬ (m : Int) = 0 := by omega
  have czn : ¬ m = 0 := by omega
  have cz' : ((m : Int) == 0) = false := by rw [beq_eq_false_iff_ne]; omega
  have hmk := fun w => run_nth w L hL
  have hWL : IntKind.i64.wrap ((L : Int) - 1) = (L : Int) - 1 := wrapK_in _ 3000 (by omega) (by omega)
  go_enter Tryz.func68, Tryz.ntmps68
  have b1 := Box.new (w := w) (t := 24) (cs := #[.slice A m cap]) rfl
  have b2 := Box.new (w := w.alloc (.cells #[.slice A m cap] 24)) (t := 3) (cs := (List.replicate L (iv 0)).toArray) rfl
  have b1 := b1.alloc (.cells (List.replicate L (iv 0)).toArray 3)
  rw [show (w.alloc (.cells #[.slice A m cap] 24)).heap.size = w.heap.size + 1 by simp] at b2
  go_wp2_with (rw [hmk])
  go_loopw [2, 8] (fun nn i wr => ∃ j k : Nat, ∃ z : Int, j + k = L ∧ z = (j : Int) - 1 ∧ i = iv z ∧ nn = iv ((n / m ^ k : Nat) : Int) ∧ Hid (Box wr w.heap.size 24 #[.slice A m cap]) ∧ Hid (Box wr (w.heap.size + 1) 3 (nthC m j k n).toArray) ∧ Below w.heap.size w wr) (fun _ i _ => (intOf i + 1).toNat)
  case atStart => exact ⟨L, 0, _, rfl, rfl, rfl, by simp, Lib.hid b1, Lib.hid (by unfold nthC; simpa [dgs] using b2), up_alloc (up_alloc up0 _) _⟩
  case round =>
    obtain ⟨j, k, z, hjk, hz, rfl, rfl, HB1, HB2, hB⟩ := hrel
    by_cases hz0 : 0 ≤ z
    · obtain ⟨j, rfl⟩ : ∃ i, j = i + 1 := ⟨j - 1, by omega⟩
      obtain rfl : z = (j : Int) := by omega
      clear hz
      have hjL : (j : Int) < (L : Int) := by omega
      obtain ⟨q, hq⟩ : ∃ q : Nat, n / m ^ k = q := ⟨_, rfl⟩
      have hq27 : q ≤ 27 := by
        have := Nat.div_le_self n (m ^ k)
        omega
      have hP := Lib.hid (nthC_put m j k n)
      have hA0 := nthC_at m j k n
      have HQ2 := Lib.hid (show q / m = n / m ^ (k + 1) by rw [← hq, Nat.div_div_eq_div_mul, Nat.pow_succ])
      rw [hq] at hP ⊢
      obtain ⟨d, hd⟩ : ∃ d : Nat, q % m = d := ⟨_, rfl⟩
      obtain ⟨q2, hq2⟩ : ∃ d : Nat, q / m = d := ⟨_, rfl⟩
      have hR : (q : Int).tmod (m : Int) = (d : Int) := by rw [Int.tmod_eq_emod_of_nonneg (by omega), ← hd]; simp
      have hD : (q : Int).tdiv (m : Int) = (q2 : Int) := by rw [Int.tdiv_eq_ediv_of_nonneg (by omega), ← hq2]; simp
      have hq27' : q2 ≤ 27 := by rw [← hq2]; exact Nat.le_trans (Nat.div_le_self _ _) hq27
      have hd27 : d ≤ 27 := by rw [← hd]; exact Nat.le_trans (Nat.mod_le _ _) hq27
      have hWq : IntKind.i64.wrap (q2 : Int) = (q2 : Int) := wrapK_in _ 3000 (by omega) (by omega)
      rw [hd] at hP
      rw [hq2] at HQ2
      have b1 := HB1.out
      clear hq hd hq2
      go_wp2_with fail
      have c1 := b1.cell 0
      have b2 := HB2.out
      have q0 : wr.cell? ⟨w.heap.size + 1, j, none⟩ = some (iv 0) := by
        have h := b2.cell j
        rw [List.getElem?_toArray, hA0] at h
        exact h
      have f2 := b2.free j
      go_region
      have hWj : IntKind.i64.wrap ((j : Int) - 1) = (j : Int) - 1 := wrapK_in _ 3000 (by omega) (by omega)
      go_wp2_with fail
      go_roundw
      case rel => exact ⟨j, k + 1, _, by omega, rfl, rfl, by rw [← HQ2.out], Lib.hid (Box.far (HB1.out.drew) (p := ⟨w.heap.size + 1, j, none⟩) (by simp) _), Lib.hid (by rw [← hP.out]; exact (HB2.out.drew).put j _), up_put (up_drew hB) (p := ⟨w.heap.size + 1, j, none⟩) (by simp) _⟩
      case measure => simp [intOf]
    · have hz1 : z = -1 := by omega
      obtain rfl : j = 0 := by omega
      obtain rfl : k = L := by omega
      have HO := Lib.hid (own_of_box (n0 := w.heap.size) HB2.out (by omega) (by rw [nthC_len, Nat.zero_add]) hL)
      clear hz
      go_wp2_with fail
      go_ret
      exact ⟨_, rfl, by simpa [nthC] using HO.out, hB⟩
end Go.Proofs.YtonekgefegfapaaGreat

namespace Go.Proofs.YtonekgefegfapaaGreat
open Go.RowKit

theorem few_ends {S R : By} {E : Nat} (hE : E < 120) : (fewI S R (0, 0) ≤ E ∧ endsN S R (0, 0) = fewI S R (0, 0)) ∨ (¬ fewI S R (0, 0) ≤ E ∧ E < endsN S R (0, 0)) := by
  unfold endsN
  split
  · by_cases h : fewI S R (0, 0) ≤ E
    · exact .inl ⟨h, rfl⟩
    · exact .inr ⟨h, by omega⟩
  · exact .inr ⟨by omega, by omega⟩
set_option maxRecDepth 100000 in
set_option maxHeartbeats 3000000 in
theorem RTexts_any (v : Value) (l : List ByteArray) (r : ByteArray) (E K : Nat) (w : World) (hl : RowsAny w v 1 sc l) (hcb : codeB l = true) (hl0 : 0 < l.length) (hl3 : l.length ≤ 3) (hr : r.size ≤ 40) (hE : E ≤ 3) (hK : K ≤ 3) :
    Calls Tryz.prog 38 #[.agg #[v], .string r, iv E, iv K] w fun e w' => ∃ u, e = .returned u ∧ OwnTexts w.heap.size w' u (outT l r.data.toList E (K + 1)) ∧ Below w.heap.size w w' := by
  obtain ⟨A, cap, hv, -, -⟩ := hl.form
  subst hv
  have h4 := Lib.hid (codeB_four hcb)
  have HCb := Lib.hid hcb
  obtain ⟨m, hm⟩ : ∃ m, l.length = m := ⟨_, rfl⟩
  have HM := Lib.hid hm
  have HL3 := Lib.hid hl3
  have HL0 := Lib.hid hl0
  obtain ⟨i0, hi0, hz0, hz1, hz2⟩ := info_parts texts_info
  rw [hm] at hl0 hl3 hl
  have HL := Lib.hid hl
  clear hl hcb
  go_enter Tryz.func38, Tryz.ntmps38
  have B1 := Box.new (w := w) (t := 24) (cs := #[.slice A l.length cap]) rfl
  rw [hm] at B1 ⊢
  clear hm
  go_wp2_with fail
  go_loopw [9, 10, 11, 12, 13, 14, 15] (fun o mm li _ _ _ _ wr => ∃ L : Nat, L ≤ K + 1 ∧ li = iv L ∧ mm = iv ((m ^ L : Nat) : Int) ∧ Hid (OwnTexts w.heap.size wr o (outT l r.data.toList E L)) ∧ Hid (Box wr w.heap.size 24 #[.slice A m cap]) ∧ Below w.heap.size w wr) (fun _ _ li _ _ _ _ _ => K + 1 - (intOf li).toNat)
  case atStart => exact ⟨0, by omega, rfl, rfl, Lib.hid ⟨[], ⟨by simp [outT], .inl ⟨rfl, by simp [outT]⟩⟩, fun i u t hu => by simp at hu⟩, Lib.hid B1, up_alloc up0 _⟩
  case round =>
    obtain ⟨L, hLk, rfl, rfl, HO, HB1, hB⟩ := hrel
    by_cases hlt : L ≤ K
    · have hlt' : (L : Int) ≤ (K : Int) := by omega
      obtain ⟨M, hM⟩ : ∃ M, m ^ L = M := ⟨_, rfl⟩
      have hM27 : M ≤ 27 := by
        have h3 : m ^ L ≤ 3 ^ L := Nat.pow_le_pow_left hl3 L
        have h4 : 3 ^ L ≤ 3 ^ 3 := Nat.pow_le_pow_right (by decide) (by omega)
        omega
      have HM2 := Lib.hid hM
      rw [hM]
      clear hM
      go_wp2_with fail
      go_loopw [9, 12, 13, 14, 15] (fun o ni _ _ _ wr => ∃ n : Nat, n ≤ M ∧ ni = iv n ∧ Hid (OwnTexts w.heap.size wr o (outT l r.data.toList E L ++ rowT l r.data.toList E L n)) ∧ Hid (Box wr w.heap.size 24 #[.slice A m cap]) ∧ Below w.heap.size w wr) (fun _ ni _ _ _ _ => M - (intOf ni).toNat)
      case atStart => exact ⟨0, by omega, rfl, Lib.hid (by rw [rowT_zero, List.append_nil]; exact HO.out), HB1, hB⟩
      case round =>
        obtain ⟨n, hnM, rfl, HO, HB1, hB⟩ := hrel
        by_cases hn : n < M
        · have hn' : (n : Int) < (M : Int) := by omega
          have b1 := HB1.out
          have c1 := fun i => b1.cell i
          go_wp2_with fail
          refine (Nth_any _ l L n _ ((HL.out.kept hB).rows (by have := HL3.out; omega)) HL0.out HL3.out (by omega) (by omega)).mono ?_
          rintro e w1 ⟨u, rfl, hu, hb1⟩
          obtain ⟨t, ht⟩ : ∃ t, dgs l.length L n = t := ⟨_, rfl⟩
          have htl : t.length = L := by rw [← ht, dgs_len]
          have HLet := Lib.hid (show ∀ x ∈ t, letB l.length x = true from fun x hx => dgs_let HL0.out L n x (by rw [ht]; exact hx))
          have HR := Lib.hid (rowT_succ l r.data.toList E L n)
          rw [ht] at hu HR
          obtain ⟨A4, m4, p4, hform⟩ := own_form hu
          subst hform
          rw [← htl] at hu
          have HU := Lib.hid (own_mono hu (show w.heap.size ≤ _ from hB.size))
          have hB1 := up_later hB hb1
          have HB1 := Lib.hid (b1.kept hb1)
          have HO := Lib.hid (HO.out.kept hb1)
          have b1 := HB1.out
          have c1 := fun i => b1.cell i
          have Htl := Lib.hid htl
          clear hb1 hu hB ht htl
          go_wp2_with fail
          refine (Signs_any _ _ l t _ ((HL.out.kept hB1).rows (by have := HL3.out; omega)) (text_rows HU.out (by have := Htl.out; omega)) h4.out HLet.out).mono ?_
          rintro e w2 ⟨rfl, hb2⟩
          obtain ⟨S, hS⟩ : ∃ S : ByteArray, ⟨(sgnI l t).toArray⟩ = S := ⟨_, rfl⟩
          have HS := Lib.hid (show S.data.toList = sgnI l t by rw [← hS])
          have HSl := Lib.hid (show S.size ≤ 40 by
            have := sgn_len h4.out (t := t) (by have := Htl.out; omega)
            rw [Lib.size_eq, HS.out]
            omega)
          have HSs := Lib.hid (show S.data.toList.all signB = true by rw [HS.out]; exact sgn_all HCb.out HLet.out)
          rw [hS]
          have hB := up_later hB1 hb2
          have HB1 := Lib.hid (b1.kept hb2)
          have HO := Lib.hid (HO.out.kept hb2)
          have HU := Lib.hid (own_below HU.out hb2)
          clear hb2 hB1 hS b1 c1
          go_wp2_with fail
          refine (RErrors_any S r _ HSl.out hr HSs.out).mono ?_
          rintro e w3 ⟨rfl, hb3⟩
          obtain ⟨N, hN⟩ : ∃ N, endsN S.data.toList r.data.toList (0, 0) = N := ⟨_, rfl⟩
          rw [hN]
          have hB3 := up_later hB hb3
          have HB1 := Lib.hid (HB1.out.kept hb3)
          have HO := Lib.hid (HO.out.kept hb3)
          have HU := Lib.hid (own_below HU.out hb3)
          have hB := hB3
          clear hb3 hB3
          have HF := few_ends (S := S.data.toList) (R := r.data.toList) (E := E) (by omega)
          rw [hN, HS.out] at HF
          clear hN
          rcases HF with ⟨hf1, hf2⟩ | ⟨hf1, hf2⟩
          · have HX := Lib.hid (show rowT l r.data.toList E L (n + 1) = rowT l r.data.toList E L n ++ [t] by
              rw [HR.out, if_pos]
              exact decide_eq_true hf1)
            have hNE : (N : Int) ≤ (E : Int) := by omega
            have hd : decide (N < 1000) = true := decide_eq_true (by omega)
            obtain ⟨T, hT⟩ : ∃ T, outT l r.data.toList E L ++ rowT l r.data.toList E L n = T := ⟨_, rfl⟩
            have hT1 : T.length ≤ 200 := by
              have h1 := outT_size (R := r.data.toList) (E := E) HL3.out L (by omega)
              have h2 := rowT_size l r.data.toList E L n
              rw [← hT, List.length_append]
              omega
            have HX2 := Lib.hid (show outT l r.data.toList E L ++ rowT l r.data.toList E L (n + 1) = T ++ [t] by rw [HX.out, ← List.append_assoc, hT])
            rw [hT] at HO
            clear hf1 hf2 hT
            obtain ⟨vs, ho, hvr⟩ := HO.out
            have HO1 := Lib.hid ho
            have HV := Lib.hid hvr
            obtain ⟨A3, m3, p3, hform⟩ := own_form ho
            subst hform
            have hz1w := hB.size
            clear ho hvr
            go_wp2_with (at_builtin; refine wpList_append_own_at _ rfl (.tmp 44) (.tmp 46) 50 rfl w.heap.size 25 i0 _ 1 24 Tryz.underlying50 hi0 hz0 hz1 hz2 rfl (by decide) _ _ _ rfl (own_below HO1.out (up_alloc up0 _)) ⟨w3.heap.size, 0, none⟩ 1 1 [.slice A4 m4 p4] rfl rfl (box_newsM (Box.new rfl)) (by simp [Value.oneCell']) (by unfold maxLen; omega) (by omega) (by simp; omega) ?_; intro v' w5 hown' hgrow _ _)
            have hO' := own_below HO1.out (w' := w3.alloc (.cells #[.slice A4 m4 p4] 25)) (up_alloc up0 _)
            have HB5 := Lib.hid ((HB1.out.alloc (.cells #[.slice A4 m4 p4] 25)).grown hgrow (box_not_own (HB1.out.alloc (.cells #[.slice A4 m4 p4] 25)) (by decide) hO'))
            go_roundw
            case rel =>
              refine ⟨n + 1, by omega, by go_num, Lib.hid ?_, HB5, (up_alloc hB _).grown hgrow (by simp; omega) (fun b' hb' => (hO'.lt b' hb').1)⟩
              rw [HX2.out]
              exact OwnTexts.app (w1 := w3) HO1.out HV.out HU.out (up_alloc up0 _) hgrow hown'
            case measure => simp [intOf]; omega
          · have HX := Lib.hid (show rowT l r.data.toList E L (n + 1) = rowT l r.data.toList E L n by
              rw [HR.out, if_neg (by unfold okB; rw [decide_eq_true_eq]; exact hf1), List.append_nil])
            have hNE : ¬ (N : Int) ≤ (E : Int) := by omega
            clear hf1 hf2
            by_cases hN9 : N < 1000
            · have hd : decide (N < 1000) = true := decide_eq_true hN9
              go_wp2_with fail
              go_roundw
              case rel => exact ⟨n + 1, by omega, by go_num, Lib.hid (by rw [HX.out]; exact HO.out), HB1, hB⟩
              case measure => simp [intOf]; omega
            · have hd : decide (N < 1000) = false := decide_eq_false hN9
              go_wp2_with fail
              go_roundw
              case rel => exact ⟨n + 1, by omega, by go_num, Lib.hid (by rw [HX.out]; exact HO.out), HB1, hB⟩
              case measure => simp [intOf]; omega
        · have hn' : ¬ (n : Int) < (M : Int) := by omega
          obtain rfl : n = M := by omega
          have b1 := HB1.out
          have c1 := fun i => b1.cell i
          have HW : IntKind.i64.wrap ((n : Int) * (m : Int)) = ((m ^ (L + 1) : Nat) : Int) := by
            have e : ((n : Int) * (m : Int)) = ((m ^ (L + 1) : Nat) : Int) := by rw [Nat.pow_succ, HM2.out, Int.natCast_mul]
            rw [e]
            have h3 : m ^ (L + 1) ≤ 3 ^ (L + 1) := Nat.pow_le_pow_left hl3 _
            have h4 : 3 ^ (L + 1) ≤ 3 ^ 4 := Nat.pow_le_pow_right (by decide) (by omega)
            exact wrapK_in _ 3000 (by omega) (by omega)
          have HX := Lib.hid (show outT l r.data.toList E (L + 1) = outT l r.data.toList E L ++ rowT l r.data.toList E L n by
            rw [outT_succ, HM.out, HM2.out])
          go_wp2_with fail
          go_roundw
          case rel => exact ⟨L + 1, by omega, by go_num, rfl, Lib.hid (by rw [HX.out]; exact HO.out), HB1, hB⟩
          case measure => simp [intOf]; omega
    · have hlt' : ¬ (L : Int) ≤ (K : Int) := by omega
      obtain rfl : L = K + 1 := by omega
      go_wp2_with fail
      go_ret
      exact ⟨_, rfl, HO.out, hB⟩
end Go.Proofs.YtonekgefegfapaaGreat

namespace Go.Proofs.YtonekgefegfapaaGreat
open Go.RowKit

theorem signs_plus (r : ByteArray) : signsE [r, ⟨#[]⟩] = signsE [r] := by
  have h1 : decide ((⟨#[]⟩ : ByteArray).size ≤ 40) = true := rfl
  have h2 : (⟨#[]⟩ : ByteArray).data.toList.all signB = true := rfl
  unfold signsE
  simp only [List.all_cons, List.all_nil, Bool.and_true, h1, h2]
set_option maxRecDepth 100000 in
set_option maxHeartbeats 2000000 in
theorem texts_good (A : Option Addr) (cap : Nat) (l : List ByteArray) (r : ByteArray) (E K : Nat) (w : World) (HL : Hid (RowsAny w (.slice A l.length cap) 1 sc l)) (HTh : Hid ((thinB l && decide (r.size ≤ 60)) = true)) (hl9 : l.length ≤ 1000) (hC : codeE l = 0) (h3 : (l.length : Int) ≤ 3) (hS : signsE [r, ⟨#[]⟩] = 0)
    (x3 : (E : Int) ≤ 3) (y3 : (K : Int) ≤ 3) : Calls Tryz.prog 6 #[.agg #[.slice A l.length cap], .string r, .int .i64 E, .int .i64 K] w fun e w' => e = .returned (.bool true) ∧ Below w.heap.size w w' := by
  have HC := Lib.hid hC
  have HS := Lib.hid hS
  have hS1 : signsE [r] = 0 := by rw [← signs_plus, hS]
  have x0 : (0 : Int) ≤ (E : Int) := by omega
  have y0 : (0 : Int) ≤ (K : Int) := by omega
  have HVx := Lib.hid (show (decide ((0 : Int) ≤ (E : Int)) && decide ((E : Int) ≤ 3)) = true by
    rw [Bool.and_eq_true, decide_eq_true_eq, decide_eq_true_eq]
    exact ⟨x0, x3⟩)
  obtain ⟨hl6, hcb⟩ := codeE_len hC
  have hl0 : 0 < l.length := by
    unfold codeB at hcb
    simp only [Bool.and_eq_true, decide_eq_true_eq] at hcb
    exact hcb.1
  have hr40 := signs_len hS1
  have HV := Lib.hid (show (decide ((0 : Int) ≤ (K : Int)) && decide ((K : Int) ≤ 5)) = true by
    rw [Bool.and_eq_true, decide_eq_true_eq, decide_eq_true_eq]
    omega)
  have HTE := Lib.hid (show textsE l r E K = 0 by
    unfold textsE
    rw [hC, hS1, if_neg (by simp), if_neg (by simp), if_neg]
    unfold rangeB
    simp only [Bool.or_eq_true, decide_eq_true_eq]
    omega)
  have HIs : Hid (∀ ts, IsTexts l r.data.toList ((E : Int)).toNat ((K : Int)).toNat ts → ts = outT l r.data.toList E (K + 1)) := Lib.hid fun ts h => outT_is hl0 (by rw [← Lib.size_eq]; exact hr40) (by omega) (by simpa using h)
  have HCb := Lib.hid hcb
  have HR := Lib.hid hr40
  have HL0 := Lib.hid hl0
  have HL3 := Lib.hid (show l.length ≤ 3 by omega)
  have HE3 := Lib.hid (show E ≤ 3 by omega)
  have HK3 := Lib.hid (show K ≤ 3 by omega)
  have y3' : ¬ (3 : Int) < (K : Int) := by omega
  have HSz := Lib.hid (outT_size (R := r.data.toList) (E := E) HL3.out (K + 1) (by omega))
  clear hC hS hS1 hcb hr40 hl0 hl6
  go_enter Tryz.func6, Tryz.ntmps6
  have B1 := Box.new (w := w) (t := 24) (cs := #[.slice A l.length cap]) rfl
  have c1 := fun i => B1.cell i
  go_wp2_with fail
  refine (Thin_any _ l r _ (HL.out.kept (up_alloc up0 _))).mono ?_
  rintro e w1 ⟨rfl, hb1⟩
  rw [HTh.out]
  have hB := up_later (up_alloc up0 _) hb1
  have B1 := B1.kept hb1
  have c1 := fun i => B1.cell i
  clear hb1
  go_wp2_with fail
  refine (fault_any _ l _ (HL.out.kept hB)).mono ?_
  rintro e w2 ⟨rfl, hb2⟩
  rw [HC.out]
  have hB2 := up_later hB hb2
  have hB := hB2
  have B1 := B1.kept hb2
  have c1 := fun i => B1.cell i
  clear hb2 hB2
  go_wp2_with fail
  refine (Code_any _ l _ ((HL.out.kept hB).rows hl9)).mono ?_
  rintro e w3 ⟨ua, rfl, hua, hb3⟩
  have hB2 := up_later hB hb3
  have hB := hB2
  have B1 := B1.kept hb3
  have c1 := fun i => B1.cell i
  clear hb3 hB2
  go_wp2_with fail
  refine (Texts_any ua l r E K _ hua).mono ?_
  rintro e w4 ⟨u4, ps4, rfl, hp, hi, hno, hb4⟩
  rw [HTE.out]
  obtain ⟨A4, c4, hf, -, -⟩ := hp.1.form
  subst hf
  have HI := Lib.hid (HIs.out _ (hi HTE.out))
  have HP := Lib.hid (hp.kept (Below.refl _ _))
  have hB2 := up_later hB hb4
  have hB := hB2
  have B1 := B1.kept hb4
  have c1 := fun i => B1.cell i
  clear hb4 hB2
  clear hno hp hi hua
  go_wp2_with fail
  refine (fault_any _ l _ (HL.out.kept hB)).mono ?_
  rintro e w5 ⟨rfl, hb5⟩
  rw [HC.out]
  have HP := Lib.hid (HP.out.kept hb5)
  have hB2 := up_later hB hb5
  have hB := hB2
  have B1 := B1.kept hb5
  have c1 := fun i => B1.cell i
  clear hb5 hB2
  go_wp2_with fail
  refine (signed_any r ⟨#[]⟩ _).mono ?_
  rintro e w6 ⟨rfl, hb6⟩
  rw [HS.out]
  have HP := Lib.hid (HP.out.kept hb6)
  have hB2 := up_later hB hb6
  have hB := hB2
  have B1 := B1.kept hb6
  have c1 := fun i => B1.cell i
  clear hb6 hB2
  go_wp2_with fail
  refine (In_b _ 0 3 true _ HVx.out).mono ?_
  rintro e w7 ⟨rfl, hb7⟩
  have HP := Lib.hid (HP.out.kept hb7)
  have hB2 := up_later hB hb7
  have hB := hB2
  have B1 := B1.kept hb7
  have c1 := fun i => B1.cell i
  clear hb7 hB2
  go_wp2_with fail
  refine (In_b _ 0 5 true _ HV.out).mono ?_
  rintro e w8 ⟨rfl, hb8⟩
  have HP := Lib.hid (HP.out.kept hb8)
  have hB2 := up_later hB hb8
  have hB := hB2
  have B1 := B1.kept hb8
  have c1 := fun i => B1.cell i
  clear hb8 hB2
  go_wp2_with fail
  refine (RTexts_any _ l r E K _ (HL.out.kept hB) HCb.out HL0.out HL3.out HR.out HE3.out HK3.out).mono ?_
  rintro e wa ⟨ua, rfl, hO, hba⟩
  have HP := Lib.hid (HP.out.kept hba)
  obtain ⟨qs, hq, he⟩ := hO.any (by have := HSz.out; have := HK3.out; omega) (fun t ht => by have := outT_len ht; have := HK3.out; omega)
  obtain ⟨A5, c5, hf, -, -⟩ := hq.1.form
  subst hf
  have HQ := Lib.hid hq
  have HEq := Lib.hid (show decide (ps4.map (·.2) = qs.map (·.2)) = true from decide_eq_true (HI.out.trans he.symm))
  have hB2 := up_later hB hba
  clear hO hq he hba hB c1 B1
  go_wp2_with fail
  refine (same_any _ _ ps4 qs _ HP.out HQ.out).mono ?_
  rintro e wc ⟨rfl, hbc⟩
  rw [HEq.out]
  have hB := up_later hB2 hbc
  clear hbc hB2
  go_wp2_with fail
  refine (awake_any _).mono ?_
  rintro e w9 ⟨rfl, hb9⟩
  go_wp2_with fail
  go_ret
  exact ⟨rfl, up_later hB hb9⟩
end Go.Proofs.YtonekgefegfapaaGreat

namespace Go.Proofs.YtonekgefegfapaaGreat
open Go.RowKit

set_option maxRecDepth 100000 in
set_option maxHeartbeats 4000000 in
theorem texts_law (v : Value) (l : List ByteArray) (r : ByteArray) (x y : Int) (w : World) (hl : RowsAny w v 1 sc l) : Calls Tryz.prog 6 #[.agg #[v], .string r, .int .i64 x, .int .i64 y] w fun e w' => e = .returned (.bool true) ∧ Below w.heap.size w w' := by
  obtain ⟨A, cap, hv, hcap, hmax⟩ := hl.form
  subst hv
  have HL := Lib.hid hl
  clear hl
  obtain ⟨Th, hTh⟩ : ∃ b, (thinB l && decide (r.size ≤ 60)) = b := ⟨_, rfl⟩
  have HTh := Lib.hid hTh
  cases Th with
  | false =>
    clear hTh
    go_enter Tryz.func6, Tryz.ntmps6
    have B1 := Box.new (w := w) (t := 24) (cs := #[.slice A l.length cap]) rfl
    have c1 := fun i => B1.cell i
    go_wp2_with fail
    refine (Thin_any _ l r _ (HL.out.kept (up_alloc up0 _))).mono ?_
    rintro e w1 ⟨rfl, hb1⟩
    rw [HTh.out]
    have hB := up_later (up_alloc up0 _) hb1
    have B1 := B1.kept hb1
    have c1 := fun i => B1.cell i
    clear hb1
    go_wp2_with fail
    refine (awake_any _).mono ?_
    rintro e w9 ⟨rfl, hb9⟩
    go_wp2_with fail
    go_ret
    exact ⟨rfl, up_later hB hb9⟩
  | true =>
    have hl9 : l.length ≤ 1000 := by
      have h := hTh
      unfold thinB at h
      simp at h
      omega
    clear hTh
    obtain ⟨C, hC⟩ : ∃ C, codeE l = C := ⟨_, rfl⟩
    have HC := Lib.hid hC
    by_cases hC0 : C = 0
    case neg =>
      have e1 : (C == 0) = false := beq_eq_false_iff_ne.2 hC0
      have e2 : (C != 0) = true := by rw [bne, e1]; rfl
      have HTE := Lib.hid (show textsE l r x y = C by unfold textsE; rw [hC, if_pos hC0])
      have HN := Lib.hid hC0
      clear hC hC0
      go_enter Tryz.func6, Tryz.ntmps6
      have B1 := Box.new (w := w) (t := 24) (cs := #[.slice A l.length cap]) rfl
      have c1 := fun i => B1.cell i
      go_wp2_with fail
      refine (Thin_any _ l r _ (HL.out.kept (up_alloc up0 _))).mono ?_
      rintro e w1 ⟨rfl, hb1⟩
      rw [HTh.out]
      have hB := up_later (up_alloc up0 _) hb1
      have B1 := B1.kept hb1
      have c1 := fun i => B1.cell i
      clear hb1
      go_wp2_with fail
      refine (fault_any _ l _ (HL.out.kept hB)).mono ?_
      rintro e w2 ⟨rfl, hb2⟩
      rw [HC.out]
      have hB2 := up_later hB hb2
      have hB := hB2
      have B1 := B1.kept hb2
      have c1 := fun i => B1.cell i
      clear hb2 hB2
      go_wp2_with fail
      refine (Code_any _ l _ ((HL.out.kept hB).rows hl9)).mono ?_
      rintro e w3 ⟨ua, rfl, hua, hb3⟩
      have hB2 := up_later hB hb3
      have hB := hB2
      have B1 := B1.kept hb3
      have c1 := fun i => B1.cell i
      clear hb3 hB2
      go_wp2_with fail
      refine (Texts_any ua l r x y _ hua).mono ?_
      rintro e w4 ⟨u4, ps4, rfl, hp, hi, hno, hb4⟩
      rw [HTE.out]
      obtain ⟨rfl, rfl⟩ := hno (by rw [HTE.out]; exact HN.out)
      have hB2 := up_later hB hb4
      have hB := hB2
      have B1 := B1.kept hb4
      have c1 := fun i => B1.cell i
      clear hb4 hB2
      clear hno hp hi hua
      go_wp2_with fail
      refine (fault_any _ l _ (HL.out.kept hB)).mono ?_
      rintro e w5 ⟨rfl, hb5⟩
      rw [HC.out]
      have hB2 := up_later hB hb5
      have hB := hB2
      have B1 := B1.kept hb5
      have c1 := fun i => B1.cell i
      clear hb5 hB2
      go_wp2_with fail
      refine (awake_any _).mono ?_
      rintro e w9 ⟨rfl, hb9⟩
      go_wp2_with fail
      go_ret
      exact ⟨rfl, up_later hB hb9⟩
    subst hC0
    by_cases h3 : (l.length : Int) ≤ 3
    case neg =>
      have h3' : (3 : Int) < (l.length : Int) := by omega
      clear hC h3
      go_enter Tryz.func6, Tryz.ntmps6
      have B1 := Box.new (w := w) (t := 24) (cs := #[.slice A l.length cap]) rfl
      have c1 := fun i => B1.cell i
      go_wp2_with fail
      refine (Thin_any _ l r _ (HL.out.kept (up_alloc up0 _))).mono ?_
      rintro e w1 ⟨rfl, hb1⟩
      rw [HTh.out]
      have hB := up_later (up_alloc up0 _) hb1
      have B1 := B1.kept hb1
      have c1 := fun i => B1.cell i
      clear hb1
      go_wp2_with fail
      refine (fault_any _ l _ (HL.out.kept hB)).mono ?_
      rintro e w2 ⟨rfl, hb2⟩
      rw [HC.out]
      have hB2 := up_later hB hb2
      have hB := hB2
      have B1 := B1.kept hb2
      have c1 := fun i => B1.cell i
      clear hb2 hB2
      go_wp2_with fail
      refine (awake_any _).mono ?_
      rintro e w9 ⟨rfl, hb9⟩
      go_wp2_with fail
      go_ret
      exact ⟨rfl, up_later hB hb9⟩
    by_cases h36 : 3 < y ∧ y < 6
    · obtain ⟨y3, y6⟩ := h36
      clear hC
      go_enter Tryz.func6, Tryz.ntmps6
      have B1 := Box.new (w := w) (t := 24) (cs := #[.slice A l.length cap]) rfl
      have c1 := fun i => B1.cell i
      go_wp2_with fail
      refine (Thin_any _ l r _ (HL.out.kept (up_alloc up0 _))).mono ?_
      rintro e w1 ⟨rfl, hb1⟩
      rw [HTh.out]
      have hB := up_later (up_alloc up0 _) hb1
      have B1 := B1.kept hb1
      have c1 := fun i => B1.cell i
      clear hb1
      go_wp2_with fail
      refine (fault_any _ l _ (HL.out.kept hB)).mono ?_
      rintro e w2 ⟨rfl, hb2⟩
      rw [HC.out]
      have hB2 := up_later hB hb2
      have hB := hB2
      have B1 := B1.kept hb2
      have c1 := fun i => B1.cell i
      clear hb2 hB2
      go_wp2_with fail
      refine (awake_any _).mono ?_
      rintro e w9 ⟨rfl, hb9⟩
      go_wp2_with fail
      go_ret
      exact ⟨rfl, up_later hB hb9⟩
    obtain ⟨S, hS⟩ : ∃ S, signsE [r, ⟨#[]⟩] = S := ⟨_, rfl⟩
    have HS := Lib.hid hS
    have hS1 : signsE [r] = S := by rw [← signs_plus, hS]
    by_cases hS0 : S = 0
    case neg =>
      have e1 : (S == 0) = false := beq_eq_false_iff_ne.2 hS0
      have e2 : (S != 0) = true := by rw [bne, e1]; rfl
      have HTE := Lib.hid (show textsE l r x y = S by unfold textsE; rw [hC, hS1, if_neg (by simp), if_pos hS0])
      have HN := Lib.hid hS0
      clear hC hS hS1 hS0
      rcases (show y ≤ 3 ∨ (3 < y ∧ ¬ y < 6) by omega) with y3 | ⟨y3, y6⟩
      · have y3' : ¬ 3 < y := by omega
        go_enter Tryz.func6, Tryz.ntmps6
        have B1 := Box.new (w := w) (t := 24) (cs := #[.slice A l.length cap]) rfl
        have c1 := fun i => B1.cell i
        go_wp2_with fail
        refine (Thin_any _ l r _ (HL.out.kept (up_alloc up0 _))).mono ?_
        rintro e w1 ⟨rfl, hb1⟩
        rw [HTh.out]
        have hB := up_later (up_alloc up0 _) hb1
        have B1 := B1.kept hb1
        have c1 := fun i => B1.cell i
        clear hb1
        go_wp2_with fail
        refine (fault_any _ l _ (HL.out.kept hB)).mono ?_
        rintro e w2 ⟨rfl, hb2⟩
        rw [HC.out]
        have hB2 := up_later hB hb2
        have hB := hB2
        have B1 := B1.kept hb2
        have c1 := fun i => B1.cell i
        clear hb2 hB2
        go_wp2_with fail
        refine (Code_any _ l _ ((HL.out.kept hB).rows hl9)).mono ?_
        rintro e w3 ⟨ua, rfl, hua, hb3⟩
        have hB2 := up_later hB hb3
        have hB := hB2
        have B1 := B1.kept hb3
        have c1 := fun i => B1.cell i
        clear hb3 hB2
        go_wp2_with fail
        refine (Texts_any ua l r x y _ hua).mono ?_
        rintro e w4 ⟨u4, ps4, rfl, hp, hi, hno, hb4⟩
        rw [HTE.out]
        obtain ⟨rfl, rfl⟩ := hno (by rw [HTE.out]; exact HN.out)
        have hB2 := up_later hB hb4
        have hB := hB2
        have B1 := B1.kept hb4
        have c1 := fun i => B1.cell i
        clear hb4 hB2
        clear hno hp hi hua
        go_wp2_with fail
        refine (fault_any _ l _ (HL.out.kept hB)).mono ?_
        rintro e w5 ⟨rfl, hb5⟩
        rw [HC.out]
        have hB2 := up_later hB hb5
        have hB := hB2
        have B1 := B1.kept hb5
        have c1 := fun i => B1.cell i
        clear hb5 hB2
        go_wp2_with fail
        refine (signed_any r ⟨#[]⟩ _).mono ?_
        rintro e w6 ⟨rfl, hb6⟩
        rw [HS.out]
        have hB2 := up_later hB hb6
        have hB := hB2
        have B1 := B1.kept hb6
        have c1 := fun i => B1.cell i
        clear hb6 hB2
        go_wp2_with fail
        refine (awake_any _).mono ?_
        rintro e w9 ⟨rfl, hb9⟩
        go_wp2_with fail
        go_ret
        exact ⟨rfl, up_later hB hb9⟩
      · skip
        go_enter Tryz.func6, Tryz.ntmps6
        have B1 := Box.new (w := w) (t := 24) (cs := #[.slice A l.length cap]) rfl
        have c1 := fun i => B1.cell i
        go_wp2_with fail
        refine (Thin_any _ l r _ (HL.out.kept (up_alloc up0 _))).mono ?_
        rintro e w1 ⟨rfl, hb1⟩
        rw [HTh.out]
        have hB := up_later (up_alloc up0 _) hb1
        have B1 := B1.kept hb1
        have c1 := fun i => B1.cell i
        clear hb1
        go_wp2_with fail
        refine (fault_any _ l _ (HL.out.kept hB)).mono ?_
        rintro e w2 ⟨rfl, hb2⟩
        rw [HC.out]
        have hB2 := up_later hB hb2
        have hB := hB2
        have B1 := B1.kept hb2
        have c1 := fun i => B1.cell i
        clear hb2 hB2
        go_wp2_with fail
        refine (Code_any _ l _ ((HL.out.kept hB).rows hl9)).mono ?_
        rintro e w3 ⟨ua, rfl, hua, hb3⟩
        have hB2 := up_later hB hb3
        have hB := hB2
        have B1 := B1.kept hb3
        have c1 := fun i => B1.cell i
        clear hb3 hB2
        go_wp2_with fail
        refine (Texts_any ua l r x y _ hua).mono ?_
        rintro e w4 ⟨u4, ps4, rfl, hp, hi, hno, hb4⟩
        rw [HTE.out]
        obtain ⟨rfl, rfl⟩ := hno (by rw [HTE.out]; exact HN.out)
        have hB2 := up_later hB hb4
        have hB := hB2
        have B1 := B1.kept hb4
        have c1 := fun i => B1.cell i
        clear hb4 hB2
        clear hno hp hi hua
        go_wp2_with fail
        refine (fault_any _ l _ (HL.out.kept hB)).mono ?_
        rintro e w5 ⟨rfl, hb5⟩
        rw [HC.out]
        have hB2 := up_later hB hb5
        have hB := hB2
        have B1 := B1.kept hb5
        have c1 := fun i => B1.cell i
        clear hb5 hB2
        go_wp2_with fail
        refine (signed_any r ⟨#[]⟩ _).mono ?_
        rintro e w6 ⟨rfl, hb6⟩
        rw [HS.out]
        have hB2 := up_later hB hb6
        have hB := hB2
        have B1 := B1.kept hb6
        have c1 := fun i => B1.cell i
        clear hb6 hB2
        go_wp2_with fail
        refine (awake_any _).mono ?_
        rintro e w9 ⟨rfl, hb9⟩
        go_wp2_with fail
        go_ret
        exact ⟨rfl, up_later hB hb9⟩
    subst hS0
    by_cases hx : 0 ≤ x ∧ x ≤ 3
    case neg =>
      have HN := Lib.hid (show ¬ (2 : Int) = 0 by omega)
      have HV := Lib.hid (show (decide ((0 : Int) ≤ x) && decide (x ≤ 3)) = false by
        rw [Bool.and_eq_false_iff, decide_eq_false_iff_not, decide_eq_false_iff_not]
        omega)
      have HTE := Lib.hid (show textsE l r x y = 2 by
        unfold textsE
        rw [hC, hS1, if_neg (by simp), if_neg (by simp), if_pos]
        unfold rangeB
        simp only [Bool.or_eq_true, decide_eq_true_eq]
        omega)
      clear hC hS hS1 hx
      rcases (show y ≤ 3 ∨ (3 < y ∧ ¬ y < 6) by omega) with y3 | ⟨y3, y6⟩
      · have y3' : ¬ 3 < y := by omega
        go_enter Tryz.func6, Tryz.ntmps6
        have B1 := Box.new (w := w) (t := 24) (cs := #[.slice A l.length cap]) rfl
        have c1 := fun i => B1.cell i
        go_wp2_with fail
        refine (Thin_any _ l r _ (HL.out.kept (up_alloc up0 _))).mono ?_
        rintro e w1 ⟨rfl, hb1⟩
        rw [HTh.out]
        have hB := up_later (up_alloc up0 _) hb1
        have B1 := B1.kept hb1
        have c1 := fun i => B1.cell i
        clear hb1
        go_wp2_with fail
        refine (fault_any _ l _ (HL.out.kept hB)).mono ?_
        rintro e w2 ⟨rfl, hb2⟩
        rw [HC.out]
        have hB2 := up_later hB hb2
        have hB := hB2
        have B1 := B1.kept hb2
        have c1 := fun i => B1.cell i
        clear hb2 hB2
        go_wp2_with fail
        refine (Code_any _ l _ ((HL.out.kept hB).rows hl9)).mono ?_
        rintro e w3 ⟨ua, rfl, hua, hb3⟩
        have hB2 := up_later hB hb3
        have hB := hB2
        have B1 := B1.kept hb3
        have c1 := fun i => B1.cell i
        clear hb3 hB2
        go_wp2_with fail
        refine (Texts_any ua l r x y _ hua).mono ?_
        rintro e w4 ⟨u4, ps4, rfl, hp, hi, hno, hb4⟩
        rw [HTE.out]
        obtain ⟨rfl, rfl⟩ := hno (by rw [HTE.out]; exact HN.out)
        have hB2 := up_later hB hb4
        have hB := hB2
        have B1 := B1.kept hb4
        have c1 := fun i => B1.cell i
        clear hb4 hB2
        clear hno hp hi hua
        go_wp2_with fail
        refine (fault_any _ l _ (HL.out.kept hB)).mono ?_
        rintro e w5 ⟨rfl, hb5⟩
        rw [HC.out]
        have hB2 := up_later hB hb5
        have hB := hB2
        have B1 := B1.kept hb5
        have c1 := fun i => B1.cell i
        clear hb5 hB2
        go_wp2_with fail
        refine (signed_any r ⟨#[]⟩ _).mono ?_
        rintro e w6 ⟨rfl, hb6⟩
        rw [HS.out]
        have hB2 := up_later hB hb6
        have hB := hB2
        have B1 := B1.kept hb6
        have c1 := fun i => B1.cell i
        clear hb6 hB2
        go_wp2_with fail
        refine (In_b _ 0 3 false _ HV.out).mono ?_
        rintro e w7 ⟨rfl, hb7⟩
        have hB2 := up_later hB hb7
        have hB := hB2
        have B1 := B1.kept hb7
        have c1 := fun i => B1.cell i
        clear hb7 hB2
        go_wp2_with fail
        refine (awake_any _).mono ?_
        rintro e w9 ⟨rfl, hb9⟩
        go_wp2_with fail
        go_ret
        exact ⟨rfl, up_later hB hb9⟩
      · skip
        go_enter Tryz.func6, Tryz.ntmps6
        have B1 := Box.new (w := w) (t := 24) (cs := #[.slice A l.length cap]) rfl
        have c1 := fun i => B1.cell i
        go_wp2_with fail
        refine (Thin_any _ l r _ (HL.out.kept (up_alloc up0 _))).mono ?_
        rintro e w1 ⟨rfl, hb1⟩
        rw [HTh.out]
        have hB := up_later (up_alloc up0 _) hb1
        have B1 := B1.kept hb1
        have c1 := fun i => B1.cell i
        clear hb1
        go_wp2_with fail
        refine (fault_any _ l _ (HL.out.kept hB)).mono ?_
        rintro e w2 ⟨rfl, hb2⟩
        rw [HC.out]
        have hB2 := up_later hB hb2
        have hB := hB2
        have B1 := B1.kept hb2
        have c1 := fun i => B1.cell i
        clear hb2 hB2
        go_wp2_with fail
        refine (Code_any _ l _ ((HL.out.kept hB).rows hl9)).mono ?_
        rintro e w3 ⟨ua, rfl, hua, hb3⟩
        have hB2 := up_later hB hb3
        have hB := hB2
        have B1 := B1.kept hb3
        have c1 := fun i => B1.cell i
        clear hb3 hB2
        go_wp2_with fail
        refine (Texts_any ua l r x y _ hua).mono ?_
        rintro e w4 ⟨u4, ps4, rfl, hp, hi, hno, hb4⟩
        rw [HTE.out]
        obtain ⟨rfl, rfl⟩ := hno (by rw [HTE.out]; exact HN.out)
        have hB2 := up_later hB hb4
        have hB := hB2
        have B1 := B1.kept hb4
        have c1 := fun i => B1.cell i
        clear hb4 hB2
        clear hno hp hi hua
        go_wp2_with fail
        refine (fault_any _ l _ (HL.out.kept hB)).mono ?_
        rintro e w5 ⟨rfl, hb5⟩
        rw [HC.out]
        have hB2 := up_later hB hb5
        have hB := hB2
        have B1 := B1.kept hb5
        have c1 := fun i => B1.cell i
        clear hb5 hB2
        go_wp2_with fail
        refine (signed_any r ⟨#[]⟩ _).mono ?_
        rintro e w6 ⟨rfl, hb6⟩
        rw [HS.out]
        have hB2 := up_later hB hb6
        have hB := hB2
        have B1 := B1.kept hb6
        have c1 := fun i => B1.cell i
        clear hb6 hB2
        go_wp2_with fail
        refine (In_b _ 0 3 false _ HV.out).mono ?_
        rintro e w7 ⟨rfl, hb7⟩
        have hB2 := up_later hB hb7
        have hB := hB2
        have B1 := B1.kept hb7
        have c1 := fun i => B1.cell i
        clear hb7 hB2
        go_wp2_with fail
        refine (awake_any _).mono ?_
        rintro e w9 ⟨rfl, hb9⟩
        go_wp2_with fail
        go_ret
        exact ⟨rfl, up_later hB hb9⟩
    have HVx := Lib.hid (show (decide ((0 : Int) ≤ x) && decide (x ≤ 3)) = true by
      rw [Bool.and_eq_true, decide_eq_true_eq, decide_eq_true_eq]
      exact hx)
    by_cases hy : 0 ≤ y ∧ y ≤ 3
    case neg =>
      have HN := Lib.hid (show ¬ (2 : Int) = 0 by omega)
      have HV := Lib.hid (show (decide ((0 : Int) ≤ y) && decide (y ≤ 5)) = false by
        rw [Bool.and_eq_false_iff, decide_eq_false_iff_not, decide_eq_false_iff_not]
        omega)
      have HTE := Lib.hid (show textsE l r x y = 2 by
        unfold textsE
        rw [hC, hS1, if_neg (by simp), if_neg (by simp), if_pos]
        unfold rangeB
        simp only [Bool.or_eq_true, decide_eq_true_eq]
        omega)
      clear hC hS hS1 hx
      rcases (show y ≤ 3 ∨ (3 < y ∧ ¬ y < 6) by omega) with y3 | ⟨y3, y6⟩
      · have y3' : ¬ 3 < y := by omega
        clear hy
        go_enter Tryz.func6, Tryz.ntmps6
        have B1 := Box.new (w := w) (t := 24) (cs := #[.slice A l.length cap]) rfl
        have c1 := fun i => B1.cell i
        go_wp2_with fail
        refine (Thin_any _ l r _ (HL.out.kept (up_alloc up0 _))).mono ?_
        rintro e w1 ⟨rfl, hb1⟩
        rw [HTh.out]
        have hB := up_later (up_alloc up0 _) hb1
        have B1 := B1.kept hb1
        have c1 := fun i => B1.cell i
        clear hb1
        go_wp2_with fail
        refine (fault_any _ l _ (HL.out.kept hB)).mono ?_
        rintro e w2 ⟨rfl, hb2⟩
        rw [HC.out]
        have hB2 := up_later hB hb2
        have hB := hB2
        have B1 := B1.kept hb2
        have c1 := fun i => B1.cell i
        clear hb2 hB2
        go_wp2_with fail
        refine (Code_any _ l _ ((HL.out.kept hB).rows hl9)).mono ?_
        rintro e w3 ⟨ua, rfl, hua, hb3⟩
        have hB2 := up_later hB hb3
        have hB := hB2
        have B1 := B1.kept hb3
        have c1 := fun i => B1.cell i
        clear hb3 hB2
        go_wp2_with fail
        refine (Texts_any ua l r x y _ hua).mono ?_
        rintro e w4 ⟨u4, ps4, rfl, hp, hi, hno, hb4⟩
        rw [HTE.out]
        obtain ⟨rfl, rfl⟩ := hno (by rw [HTE.out]; exact HN.out)
        have hB2 := up_later hB hb4
        have hB := hB2
        have B1 := B1.kept hb4
        have c1 := fun i => B1.cell i
        clear hb4 hB2
        clear hno hp hi hua
        go_wp2_with fail
        refine (fault_any _ l _ (HL.out.kept hB)).mono ?_
        rintro e w5 ⟨rfl, hb5⟩
        rw [HC.out]
        have hB2 := up_later hB hb5
        have hB := hB2
        have B1 := B1.kept hb5
        have c1 := fun i => B1.cell i
        clear hb5 hB2
        go_wp2_with fail
        refine (signed_any r ⟨#[]⟩ _).mono ?_
        rintro e w6 ⟨rfl, hb6⟩
        rw [HS.out]
        have hB2 := up_later hB hb6
        have hB := hB2
        have B1 := B1.kept hb6
        have c1 := fun i => B1.cell i
        clear hb6 hB2
        go_wp2_with fail
        refine (In_b _ 0 3 true _ HVx.out).mono ?_
        rintro e w8 ⟨rfl, hb8⟩
        have hB2 := up_later hB hb8
        have hB := hB2
        have B1 := B1.kept hb8
        have c1 := fun i => B1.cell i
        clear hb8 hB2
        go_wp2_with fail
        refine (In_b _ 0 5 false _ HV.out).mono ?_
        rintro e w7 ⟨rfl, hb7⟩
        have hB2 := up_later hB hb7
        have hB := hB2
        have B1 := B1.kept hb7
        have c1 := fun i => B1.cell i
        clear hb7 hB2
        go_wp2_with fail
        refine (awake_any _).mono ?_
        rintro e w9 ⟨rfl, hb9⟩
        go_wp2_with fail
        go_ret
        exact ⟨rfl, up_later hB hb9⟩
      · clear hy
        go_enter Tryz.func6, Tryz.ntmps6
        have B1 := Box.new (w := w) (t := 24) (cs := #[.slice A l.length cap]) rfl
        have c1 := fun i => B1.cell i
        go_wp2_with fail
        refine (Thin_any _ l r _ (HL.out.kept (up_alloc up0 _))).mono ?_
        rintro e w1 ⟨rfl, hb1⟩
        rw [HTh.out]
        have hB := up_later (up_alloc up0 _) hb1
        have B1 := B1.kept hb1
        have c1 := fun i => B1.cell i
        clear hb1
        go_wp2_with fail
        refine (fault_any _ l _ (HL.out.kept hB)).mono ?_
        rintro e w2 ⟨rfl, hb2⟩
        rw [HC.out]
        have hB2 := up_later hB hb2
        have hB := hB2
        have B1 := B1.kept hb2
        have c1 := fun i => B1.cell i
        clear hb2 hB2
        go_wp2_with fail
        refine (Code_any _ l _ ((HL.out.kept hB).rows hl9)).mono ?_
        rintro e w3 ⟨ua, rfl, hua, hb3⟩
        have hB2 := up_later hB hb3
        have hB := hB2
        have B1 := B1.kept hb3
        have c1 := fun i => B1.cell i
        clear hb3 hB2
        go_wp2_with fail
        refine (Texts_any ua l r x y _ hua).mono ?_
        rintro e w4 ⟨u4, ps4, rfl, hp, hi, hno, hb4⟩
        rw [HTE.out]
        obtain ⟨rfl, rfl⟩ := hno (by rw [HTE.out]; exact HN.out)
        have hB2 := up_later hB hb4
        have hB := hB2
        have B1 := B1.kept hb4
        have c1 := fun i => B1.cell i
        clear hb4 hB2
        clear hno hp hi hua
        go_wp2_with fail
        refine (fault_any _ l _ (HL.out.kept hB)).mono ?_
        rintro e w5 ⟨rfl, hb5⟩
        rw [HC.out]
        have hB2 := up_later hB hb5
        have hB := hB2
        have B1 := B1.kept hb5
        have c1 := fun i => B1.cell i
        clear hb5 hB2
        go_wp2_with fail
        refine (signed_any r ⟨#[]⟩ _).mono ?_
        rintro e w6 ⟨rfl, hb6⟩
        rw [HS.out]
        have hB2 := up_later hB hb6
        have hB := hB2
        have B1 := B1.kept hb6
        have c1 := fun i => B1.cell i
        clear hb6 hB2
        go_wp2_with fail
        refine (In_b _ 0 3 true _ HVx.out).mono ?_
        rintro e w8 ⟨rfl, hb8⟩
        have hB2 := up_later hB hb8
        have hB := hB2
        have B1 := B1.kept hb8
        have c1 := fun i => B1.cell i
        clear hb8 hB2
        go_wp2_with fail
        refine (In_b _ 0 5 false _ HV.out).mono ?_
        rintro e w7 ⟨rfl, hb7⟩
        have hB2 := up_later hB hb7
        have hB := hB2
        have B1 := B1.kept hb7
        have c1 := fun i => B1.cell i
        clear hb7 hB2
        go_wp2_with fail
        refine (awake_any _).mono ?_
        rintro e w9 ⟨rfl, hb9⟩
        go_wp2_with fail
        go_ret
        exact ⟨rfl, up_later hB hb9⟩
    obtain ⟨⟨x0, x3⟩, y0, y3⟩ := And.intro hx hy
    obtain ⟨E, rfl⟩ := Int.eq_ofNat_of_zero_le x0
    obtain ⟨K, rfl⟩ := Int.eq_ofNat_of_zero_le y0
    exact texts_good A cap l r E K w HL HTh hl9 hC h3 hS x3 y3
end Go.Proofs.YtonekgefegfapaaGreat

namespace Go.Proofs.YtonekgefegfapaaGreat
open Go.ChangeShapes Go.WideShapes Go.ChangeAt Go.RowKit

theorem und24 : Tryz.prog.underlying 24 = some (.struct (Tryz.prog.fieldsOf 24)) := by kernel_rfl
section
variable {H : Type} {enc : TypeId × Value → H} {W : World} {base : Nat} {spare : Nat → Bool} {held : Bool}
theorem open_str {fuel : Nat} {cs : List Value} {x : DataW H × List MemPlace} (h : DataW.trod enc Tryz.prog W base spare held fuel 9 cs = some x) : ∃ s : ByteArray, cs = sc s ∧ True := by
  obtain ⟨z, hz, _⟩ := DataW.trod_string Tryz.underlying9 h
  exact ⟨z, hz, trivial⟩
theorem open_words {fuel : Nat} {cs : List Value} {x : DataW H × List MemPlace} (h : DataW.trod enc Tryz.prog W base spare held fuel 22 cs = some x) : ∃ v l, cs = [v] ∧ RowsAny W v 1 sc l := by
  obtain ⟨v, l, e, r, _⟩ := open_rows (e := 9) (sz := 1) (cells := sc) (p := fun _ => True) (by kernel_rfl) (by kernel_rfl) (by omega) (fun _ _ _ h => open_str h) h
  exact ⟨v, l, e, r⟩
theorem open_code {fuel : Nat} {cs : List Value} {x : DataW H × List MemPlace} (h : DataW.trod enc Tryz.prog W base spare held fuel 24 cs = some x) : ∃ v l, cs = [v] ∧ RowsAny W v 1 sc l := by
  have hf : (Tryz.prog.fieldsOf 24).toList.map (fun f => (f.type, f.offset)) = [(22, 0)] := by kernel_rfl
  have hc : Tryz.prog.cellsOf 24 = 1 := by kernel_rfl
  obtain ⟨xs, m, _, _, hlen, hxs, hel⟩ := DataW.trod_struct und24 h
  generalize Tryz.prog.fieldsOf 24 = fs at hf hxs hel
  obtain ⟨fs⟩ := fs
  rcases fs with _ | ⟨f0, _ | ⟨f1, r⟩⟩ <;> simp at hf
  obtain ⟨t0, o0⟩ := hf
  have g0 := hel 0 f0 rfl
  have k22 : Tryz.prog.cellsOf 22 = 1 := by kernel_rfl
  rw [t0, o0, k22] at g0
  have hx1 : xs.length = 1 := by simpa using hxs
  obtain ⟨y0, hy0⟩ : ∃ y, xs[0]? = some y := ⟨_, List.getElem?_eq_getElem (by omega)⟩
  rw [hy0] at g0
  obtain ⟨v, l, e, r⟩ := open_words g0
  refine ⟨v, l, ?_, r⟩
  rw [hc] at hlen
  rcases cs with _ | ⟨a, _ | ⟨b, r⟩⟩ <;> simp at hlen
  exact e
theorem open_texts {fuel : Nat} {cs : List Value} {x : DataW H × List MemPlace} (h : DataW.trod enc Tryz.prog W base spare held fuel 50 cs = some x) : ∃ v ps, cs = [v] ∧ TextsAny W v ps := by
  obtain ⟨v, l, e, r, hp⟩ := open_rows (e := 25) (sz := 1) (cells := pc) (p := fun p => RowsAny W p.1 1 ic p.2) (by kernel_rfl) (by kernel_rfl) (by omega) (fun _ _ _ h => by
    obtain ⟨v, l, e, r⟩ := open_list h
    exact ⟨(v, l), e, r⟩) h
  exact ⟨v, l, e, r, hp⟩
end
end Go.Proofs.YtonekgefegfapaaGreat

namespace Go.Proofs.YtonekgefegfapaaGreat
open Go.ChangeShapes Go.WideShapes Go.ChangeAt Go.RowKit

set_option maxRecDepth 100000 in
theorem flashTexts_lifted (os : Os) (started : os.Started) (H : Type) (enc : TypeId × Value → H) :
    ReturnsInHanded {} Tryz.checked os 6 .any (Rows.flashTextsSpec.pre6 enc Tryz.prog Tryz.f6 Rows.flashTextsRow.domain false) (Rows.flashTextsSpec.post enc Tryz.prog Tryz.f6 false true false false) := by
  refine returnsInHanded_of_change (C := Tryz.checked) own_knob started (by kernel_rfl) Tryz.func6
    (ChangeSpec.witness6 (enc := enc) (C := Tryz.checked) false ⟨#[], #[.agg #[.slice Option.none 0 0], .string ⟨#[]⟩, .int .i64 0, .int .i64 0], []⟩ 8 (by kernel_rfl) (by kernel_rfl) (by kernel_rfl) (by kernel_rfl)) ?_
  intro W base args ds gs before hval0 hW hcnd _
  have hval : ∀ (j : Nat) t v, Tryz.f6.params[j]? = some t → args[j]? = some v → Value.okWide Tryz.prog W .any base t v := hval0
  have hW' := hW
  obtain ⟨p, q, hA0, hV, rfl, hfz, hnd⟩ := hW
  have hA : DataW.TrodAll enc Tryz.prog W 0 (fun _ => true) true Tryz.f6.params.toList args.toList ds p := hA0
  rw [Tryz.params6] at hA hval
  have hlt : ∀ x ∈ p, x.block < W.heap.size := fun x hx => hW'.lt x (List.mem_append_left _ hx)
  have hAk := hA
  obtain ⟨v0, vs0, d0, ds0, p0, q0, hargs, rfl, rfl, h0, r0⟩ := trodAll_cons hA
  obtain ⟨v1, vs1, d1, ds1, p1, q1, rfl, rfl, rfl, h1, r1⟩ := trodAll_cons r0
  obtain ⟨v2, vs2, d2, ds2, p2, q2, rfl, rfl, rfl, h2, r2⟩ := trodAll_cons r1
  obtain ⟨v3, vs3, d3, ds3, p3, q3, rfl, rfl, rfl, h3, r3⟩ := trodAll_cons r2
  obtain ⟨rfl, rfl, rfl⟩ := trodAll_nil r3
  obtain rfl : args = #[v0, v1, v2, v3] := by cases args; simp_all
  obtain ⟨rfl, rfl⟩ := trodVars_none hV
  obtain ⟨cs0, rfl, _⟩ := okWide_struct und24 (hval 0 24 v0 rfl rfl)
  obtain ⟨fuel0, h0⟩ := h0
  obtain ⟨u0, l0, e0, hl0⟩ := open_code h0
  obtain rfl : cs0 = #[u0] := by
    have h : cs0.toList = [u0] := e0
    cases cs0
    simp at h
    rw [h]
  obtain ⟨a1, rfl, rfl, rfl, _⟩ := Go.ChangeMaps.open_string Tryz.underlying9 (hval 1 9 v1 rfl rfl) h1
  obtain ⟨a2, rfl, rfl, rfl, _⟩ := open_int Tryz.underlying3 (hval 2 3 v2 rfl rfl) h2
  obtain ⟨a3, rfl, rfl, rfl, _⟩ := open_int Tryz.underlying3 (hval 3 3 v3 rfl rfl) h3
  clear hA0 hval0 hval hA
  simp only [List.append_nil] at hW'
  simp only [List.append_nil] at hAk hlt
  refine (texts_law _ l0 a1 a2 a3 W hl0).mono fun e W' ⟨he, hg⟩ => ?_
  subst he
  refine ⟨_, rfl, post_below (pv := []) hW' hg (fun _ _ _ => (trodAll_cons_mk (shut_bool Tryz.underlying4 _) trodAll_mk0)) (fun sp hsp => ?_) (fun _ _ => rfl) (List.append_nil _).symm
    (ok_one (by kernel_rfl) rfl (okWide_bool_mk Tryz.underlying4 _))⟩
  rw [Tryz.params6]
  refine args_stay laid_out hg (fun t ht => ?_) hAk hlt sp (fun x hx => hsp x (by first | exact hx | simpa using hx))
  simp only [List.mem_cons, List.not_mem_nil, or_false] at ht
  rcases ht with rfl | rfl | rfl | rfl
  · exact ⟨by kernel_rfl, by have h : decide (24 < Tryz.prog.types.size) = true := (by kernel_rfl); exact of_decide_eq_true h⟩
  · exact ⟨by kernel_rfl, by have h : decide (9 < Tryz.prog.types.size) = true := (by kernel_rfl); exact of_decide_eq_true h⟩
  · exact ⟨by kernel_rfl, by have h : decide (3 < Tryz.prog.types.size) = true := (by kernel_rfl); exact of_decide_eq_true h⟩
  · exact ⟨by kernel_rfl, by have h : decide (3 < Tryz.prog.types.size) = true := (by kernel_rfl); exact of_decide_eq_true h⟩

theorem flashTexts_over : Rows.flashTextsRow.holds Tryz.pinned (OpenSpec.ofChange Rows.flashTextsSpec) :=
  OpenClaim.holds_of_wide 6 Tryz.f6 rfl rfl rfl rfl rfl rfl rfl ⟨rfl, rfl, rfl, rfl, rfl⟩ rfl rfl rfl rfl rfl (by kernel_rfl) Tryz.func6 (by kernel_rfl)
    (of_decide_eq_true (by kernel_rfl)) (by unfold Func.isWrapper; first | (rw [if_pos (by decide +kernel)]; kernel_rfl) | (rw [if_neg (by decide +kernel)]; exact ⟨rfl, rfl⟩))
    (fun os started H enc _ => flashTexts_lifted os started H enc)

theorem FlashTexts_holds : Rows.FlashTextsSaid := flashTexts_over

end Go.Proofs.YtonekgefegfapaaGreat

