/-
  WALK of slices.Repeat at []row. Conditions: one row, at most 6 copies.
-/
import Derived.Laws.CopyRow
import Derived.Great.BuildSlice
import Derived.Test.YtonekgefegfapaaGreatGc
namespace Go.Proofs.YtonekgefegfapaaGreat
open Go.RowKit

/-- copy over slices whose elements lie in z cells each. -/
theorem run_copy_rows {P : Program} (w : World) (dT sT ty elem : TypeId) (g o dLen dCap : Nat) (a : Addr) (sLen sCap z : Nat) (cur : Array Value) (t : TypeId) (cs : List Value)
    (hu : P.underlying dT = some (.slice elem)) (hs : (P.info? elem).map (·.size) = some z)
    (hg : w.heap[g]? = some (.cells cur t (0, 0))) (hn : cs.length = Nat.min sLen dLen * z)
    (hsrc : ∀ j v, cs[j]? = some v → w.cell? (a.add j) = some v) (hfit : o + cs.length ≤ cur.size) (h1 : ∀ v ∈ cs, v.oneCell' = true) :
    (Builtin.copy_ #[dT, sT] ty #[.slice (some ⟨g, o, none⟩) dLen dCap, .slice (some a) sLen sCap]).run P w =
      .ok (goInt (Nat.min sLen dLen)) (w.setRow g (cur.toList.take o ++ cs ++ cur.toList.drop (o + cs.length)).toArray) := by
  have hl := run_loadCells_list (P := P) w a cs hsrc
  have hst := run_storeCells_at P g o t cs 0 cur w hg (by simpa using hfit) h1
  cases hq : P.info? elem with
  | none => simp [hq] at hs
  | some i =>
    have hi : i.size = z := by simpa [hq] using hs
    simp [Builtin.copy_, run_underlying hu, Builtin.lenOf, Builtin.firstCells, sizeOf, typeInfo, hq, hi, ← hn, hl, hst]
/-- k rows, and room for n. -/
def manyL (r : List Nat) (k n : Nat) : List Nat := (List.replicate k r).flatten ++ List.replicate ((n - k) * 41) 0
theorem many_len {r : List Nat} (hr : r.length = 41) (k : Nat) : ((List.replicate k r).flatten).length = k * 41 := by
  induction k with
  | zero => simp
  | succ k ih => rw [List.replicate_succ, List.flatten_cons, List.length_append, ih, hr]; omega
theorem manyL_len {r : List Nat} (hr : r.length = 41) {k n : Nat} (hk : k ≤ n) : (manyL r k n).length = n * 41 := by
  unfold manyL
  rw [List.length_append, many_len hr, List.length_replicate]
  omega
theorem manyL_step {r : List Nat} (hr : r.length = 41) {k m n : Nat} (hm : k + m ≤ n) : (manyL r k n).take (k * 41) ++ (manyL r m m) ++ (manyL r k n).drop (k * 41 + m * 41) = manyL r (k + m) n := by
  have h1 : (manyL r k n).take (k * 41) = (List.replicate k r).flatten := by
    unfold manyL
    rw [List.take_append_of_le_length (by rw [many_len hr]; exact Nat.le_refl _), List.take_of_length_le (by rw [many_len hr]; exact Nat.le_refl _)]
  have h2 : (manyL r k n).drop (k * 41 + m * 41) = List.replicate ((n - (k + m)) * 41) 0 := by
    unfold manyL
    rw [List.drop_append, List.drop_eq_nil_of_le (by rw [many_len hr]; omega), many_len hr, List.nil_append, List.drop_replicate]
    congr 1
    omega
  rw [h1, h2]
  unfold manyL
  rw [Nat.sub_self, Nat.zero_mul, List.replicate_zero, List.append_nil, ← List.flatten_append, List.replicate_append_replicate]
theorem manyL_take {r : List Nat} (hr : r.length = 41) {k m n : Nat} (hm : m ≤ k) : (manyL r k n).take (m * 41) = manyL r m m := by
  unfold manyL
  rw [List.take_append_of_le_length (by rw [many_len hr]; omega), Nat.sub_self, Nat.zero_mul, List.replicate_zero, List.append_nil]
  obtain ⟨d, rfl⟩ : ∃ d, k = m + d := ⟨k - m, by omega⟩
  rw [← List.replicate_append_replicate, List.flatten_append, List.take_append_of_le_length (by rw [many_len hr]; exact Nat.le_refl _), List.take_of_length_le (by rw [many_len hr]; exact Nat.le_refl _)]
theorem made_nums {z : Value} (hz : z.cells = (List.replicate 41 (iv 0)).toArray) (n : Nat) : madeCells z.cells (n * 41) = rowC (List.replicate (n * 41) 0) := by
  unfold madeCells rowC
  rw [hz]
  obtain ⟨L, hL⟩ : ∃ L, List.replicate 41 (iv 0) = L := ⟨_, rfl⟩
  have hl : L.length = 41 := by rw [← hL, List.length_replicate]
  have hg : ∀ i, i < 41 → L[i]? = some (iv 0) := fun i hi => by rw [← hL, List.getElem?_replicate, if_pos hi]
  rw [hL]
  clear hL
  apply Array.ext
  · simp
  · intro i h1 h2
    have h3 : i % 41 < 41 := Nat.mod_lt _ (by decide)
    have h4 := hg _ h3
    simp [hl, h4]
theorem info143b : (Tryz.prog.info? 143).map (fun i => (i.zero.map (·.cells), i.size, i.bytes)) = some (some ((List.replicate 41 (iv 0)).toArray), 41, 328) := by kernel_rfl
theorem run_make_many (w : World) (n : Nat) (hn : n ≤ 100) : (Instr.makeSlice 158 (iv n) (iv n)).run Tryz.prog w = .ok (.slice (some ⟨w.heap.size, 0, none⟩) n n) (w.alloc (.cells (rowC (List.replicate (n * 41) 0)) 143)) := by
  have h := info143b
  rw [Option.map_eq_some_iff] at h
  obtain ⟨i, hi, he⟩ := h
  simp only [Prod.mk.injEq, Option.map_eq_some_iff] at he
  obtain ⟨⟨z, hz, hz2⟩, hs, hb⟩ := he
  have := run_make (P := Tryz.prog) w 158 143 i z Tryz.underlying158 hi hz .i64 .i64 n n (by omega) (Int.le_refl _) (by rw [hb]; omega) (by omega)
  rw [Int.toNat_natCast, hs, made_nums hz2] at this
  exact this
set_option maxHeartbeats 400000 in
theorem Mul64_any (n : Nat) (w : World) (h1 : 1 ≤ n) (hn : n ≤ 6) : Calls Tryz.prog 140 #[.int .u64 1, .int .u64 n] w fun e w' => e = .returned (.tuple #[.int .u64 0, .int .u64 n]) ∧ w' = w := by
  obtain rfl | rfl | rfl | rfl | rfl | rfl : n = 1 ∨ n = 2 ∨ n = 3 ∨ n = 4 ∨ n = 5 ∨ n = 6 := by omega
  all_goals
    go_enter Tryz.func140, Tryz.ntmps140
    go_wp2_with fail
    go_ret2
    exact ⟨rfl, rfl⟩
set_option maxHeartbeats 400000 in
theorem Mul_any (n : Nat) (w : World) (h1 : 1 ≤ n) (hn : n ≤ 6) : Calls Tryz.prog 126 #[.int .u64 1, .int .u64 n] w fun e w' => e = .returned (.tuple #[.int .u64 0, .int .u64 n]) ∧ w' = w := by
  go_enter Tryz.func126, Tryz.ntmps126
  go_wp2_with fail
  refine (Mul64_any n _ h1 hn).mono ?_
  rintro e w1 ⟨rfl, rfl⟩
  go_wp2_with fail
  go_ret2
  exact ⟨rfl, rfl⟩
/-- How many rows are copied next. -/
theorem copied_rows {r : List Nat} (hr : r.length = 41) {k n h : Nat} (hkn : k < n) (w : World) (hb : Box w h 143 (rowC (manyL r k n))) :
    (Builtin.copy_ #[158, 158] 3 #[.slice (some ⟨h, k * 41, none⟩) (n - k) (n - k), .slice (some ⟨h, 0, none⟩) k n]).run Tryz.prog w = .ok (iv (Nat.min k (n - k) : Nat)) (w.setRow h (rowC (manyL r (k + Nat.min k (n - k)) n))) := by
  obtain ⟨m, hm⟩ : ∃ m, Nat.min k (n - k) = m := ⟨_, rfl⟩
  have hmk : m ≤ k := hm ▸ Nat.min_le_left _ _
  have hmn : m ≤ n - k := hm ▸ Nat.min_le_right _ _
  have hi : (Tryz.prog.info? 143).map (·.size) = some 41 := info143
  have hcp := run_copy_rows (P := Tryz.prog) w 158 158 3 143 h (k * 41) (n - k) (n - k) ⟨h, 0, none⟩ k n 41 (rowC (manyL r k n)) 143 (((manyL r k n).take (m * 41)).map fun n : Nat => iv n) Tryz.underlying158 hi hb
    (by rw [List.length_map, List.length_take, manyL_len hr (by omega), hm, Nat.min_eq_left]; omega)
    (fun j v hj => by
      rw [List.getElem?_map, Option.map_eq_some_iff] at hj
      obtain ⟨x, hx, rfl⟩ := hj
      rw [show (⟨h, 0, none⟩ : Addr).add j = ⟨h, j, none⟩ by unfold Addr.add; split <;> simp_all, hb.cell, rowC_get]
      rw [List.getElem?_take] at hx
      split at hx
      · rw [hx]; rfl
      · cases hx)
    (by rw [List.length_map, List.length_take, manyL_len hr (by omega), rowC_size, manyL_len hr (by omega)]
        have : min (m * 41) (n * 41) ≤ m * 41 := Nat.min_le_left _ _
        omega)
    (fun v hv => by
      obtain ⟨x, _, rfl⟩ := List.mem_map.1 hv
      rfl)
  rw [hm] at hcp ⊢
  rw [hcp]
  refine congrArg (fun L : Array Value => Result.ok (iv m) (w.setRow h L)) ?_
  have e : ((rowC (manyL r k n)).toList.take (k * 41) ++ ((manyL r k n).take (m * 41)).map (fun n : Nat => iv n) ++ (rowC (manyL r k n)).toList.drop (k * 41 + (((manyL r k n).take (m * 41)).map fun n : Nat => iv n).length)) = (rowC (manyL r (k + m) n)).toList := by
    rw [List.length_map, List.length_take, manyL_len hr (by omega), Nat.min_eq_left (by omega), manyL_take hr hmk, ← manyL_step hr (by omega : k + m ≤ n)]
    simp only [rowC, List.map_append, List.map_take, List.map_drop]
  rw [e, Array.toArray_toList]
theorem copied_first {r : List Nat} (hr : r.length = 41) {n h g : Nat} (hn : 1 ≤ n) (w : World) (hb : Box w h 143 (rowC (List.replicate (n * 41) 0))) (hg : Box w g 143 (rowC r)) :
    (Builtin.copy_ #[158, 158] 3 #[.slice (some ⟨h, 0, none⟩) n n, .slice (some ⟨g, 0, none⟩) 1 1]).run Tryz.prog w = .ok (iv 1) (w.setRow h (rowC (manyL r 1 n))) := by
  have hi : (Tryz.prog.info? 143).map (·.size) = some 41 := info143
  have hmn : Nat.min 1 n = 1 := Nat.min_eq_left hn
  have hcp := run_copy_rows (P := Tryz.prog) w 158 158 3 143 h 0 n n ⟨g, 0, none⟩ 1 1 41 (rowC (List.replicate (n * 41) 0)) 143 (r.map fun n : Nat => iv n) Tryz.underlying158 hi hb
    (by rw [List.length_map, hr, hmn])
    (fun j v hj => by
      rw [show (⟨g, 0, none⟩ : Addr).add j = ⟨g, j, none⟩ by unfold Addr.add; split <;> simp_all, hg.cell, rowC_get, ← hj, List.getElem?_map])
    (by rw [List.length_map, hr, rowC_size, List.length_replicate]; omega)
    (fun v hv => by
      obtain ⟨x, _, rfl⟩ := List.mem_map.1 hv
      rfl)
  rw [hmn] at hcp
  rw [hcp]
  refine congrArg (fun L : Array Value => Result.ok (iv 1) (w.setRow h L)) ?_
  have e : ((rowC (List.replicate (n * 41) 0)).toList.take 0 ++ (r.map fun n : Nat => iv n) ++ (rowC (List.replicate (n * 41) 0)).toList.drop (0 + (r.map fun n : Nat => iv n).length)) = (rowC (manyL r 1 n)).toList := by
    rw [List.length_map, hr]
    simp only [rowC, manyL, List.take_zero, List.nil_append, List.map_append, List.map_replicate, List.drop_replicate, List.replicate_one, List.flatten_singleton, Nat.zero_add]
    rw [show n * 41 - 41 = (n - 1) * 41 by omega]
  rw [e, Array.toArray_toList]
set_option maxRecDepth 100000 in
set_option maxHeartbeats 1000000 in
theorem Repeat_rows (g n : Nat) (r : List Nat) (hr : r.length = 41) (w : World) (h1 : 1 ≤ n) (hn : n ≤ 6) (hg : Box w g 143 (rowC r)) :
    Calls Tryz.prog 114 #[.slice (some ⟨g, 0, none⟩) 1 1, iv n] w fun e w' => ∃ h, e = .returned (.slice (some ⟨h, 0, none⟩) n n) ∧ w.heap.size ≤ h ∧ Box w' h 143 (rowC (manyL r n n)) ∧ Below w.heap.size w w' := by
  have hmk := run_make_many w n (by omega)
  have hcp := copied_first hr h1 (w.alloc (.cells (rowC (List.replicate (n * 41) 0)) 143)) (Box.new rfl) (hg.alloc _)
  have hB0 : Box ((w.alloc (.cells (rowC (List.replicate (n * 41) 0)) 143)).setRow w.heap.size (rowC (manyL r 1 n))) w.heap.size 143 (rowC (manyL r 1 n)) := Box.row (Box.new rfl)
  have hb0 := below_row (up_alloc (up0 (w := w)) (.cells (rowC (List.replicate (n * 41) 0)) 143)) (Nat.le_refl _) (rowC (manyL r 1 n))
  have HB0 := Lib.hid hB0
  have Hb0 := Lib.hid hb0
  have HG := Lib.hid hg
  clear hg hB0 hb0
  go_enter Tryz.func114, Tryz.ntmps114
  go_wp2_with fail
  refine (Mul_any n _ h1 hn).mono ?_
  rintro e w1 ⟨rfl, rfl⟩
  go_wp2_with fail
  clear hcp hmk
  obtain ⟨W0, hW0⟩ : ∃ W0, (w1.alloc (.cells (rowC (List.replicate (n * 41) 0)) 143)).setRow w1.heap.size (rowC (manyL r 1 n)) = W0 := ⟨_, rfl⟩
  rw [hW0] at HB0 Hb0 ⊢
  clear hW0
  go_loopw [8] (fun i wr => ∃ k : Nat, 1 ≤ k ∧ k ≤ n ∧ i = iv k ∧ Hid (Box wr w1.heap.size 143 (rowC (manyL r k n))) ∧ Below w1.heap.size w1 wr) (fun i _ => n - (intOf i).toNat)
  case atStart => exact ⟨1, by omega, h1, rfl, HB0, Hb0.out⟩
  case round =>
    obtain ⟨k, hk1, hkn, rfl, HP, hB⟩ := hrel
    by_cases hlt : k < n
    · have hcp := copied_rows hr hlt wr.drew HP.out
      have hlt' : (k : Int) < (n : Int) := by omega
      obtain ⟨m, hm⟩ : ∃ m, Nat.min k (n - k) = m := ⟨_, rfl⟩
      rw [hm] at hcp
      go_wp2_with fail
      have hm1 : 1 ≤ m := by rw [← hm]; exact Nat.le_min.2 ⟨hk1, by omega⟩
      have hmn : m ≤ n - k := by rw [← hm]; exact Nat.min_le_right _ _
      go_region
      go_wp2_with fail
      go_roundw
      case rel => exact ⟨k + m, by omega, by omega, by go_num, Lib.hid (Box.row (HP.out.drew)), below_row (up_drew hB) (Nat.le_refl _) _⟩
      case measure => simp [intOf]; omega
    · obtain rfl : k = n := by omega
      go_wp2_with fail
      go_ret
      exact ⟨_, rfl, Nat.le_refl _, HP.out, hB⟩
end Go.Proofs.YtonekgefegfapaaGreat
