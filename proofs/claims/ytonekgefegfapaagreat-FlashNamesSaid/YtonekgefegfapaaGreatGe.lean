/-
  WALK of (reader).send. Conditions: at most 5 signs more, a row of 41 numbers of at most 120, at most 40 bytes read.
-/
import Derived.Sort.CutIn
import Derived.Test.YtonekgefegfapaaGreatGd
namespace Go.Proofs.YtonekgefegfapaaGreat
open Go.RowKit Go.Shelf
attribute [local go_sem] Oper.semAt_some

section
variable {P : Program}
theorem addr_add (g o j : Nat) : (⟨g, o, none⟩ : Addr).add j = ⟨g, o + j, none⟩ := by unfold Addr.add; split <;> simp_all
/-- A whole array is loaded from the middle of a block. -/
theorem run_loadVar_mid (w : World) (g off : Nat) (t ty : TypeId) (cs sub : Array Value) (fr : Nat × Nat) (d : TypeDesc) (hg : w.heap[g]? = some (.cells cs t fr))
    (hu : P.underlying ty = some d) (hd : (match d with | .struct _ | .array _ _ => true | _ => false) = true) (hi : (P.info? ty).map (·.size) = some sub.size) (hs : ∀ j, j < sub.size → cs[off + j]? = sub[j]?) :
    (loadVar ty ⟨g, off, none⟩).run P w = .ok (.agg sub) w := by
  have hl : (loadCells ⟨g, off, none⟩ sub.toList.length).run P w = .ok sub.toList.toArray w :=
    run_loadCells_list (P := P) w ⟨g, off, none⟩ sub.toList (fun j v hv => by
      have hj : j < sub.size := by
        have := (List.getElem?_eq_some_iff.1 hv).1
        simpa using this
      rw [addr_add, cell_of_row w g (off + j) cs t fr hg, hs j hj]
      simpa using hv)
  cases hq : P.info? ty with
  | none => simp [hq] at hi
  | some i =>
    have hs : i.size = sub.size := by simpa [hq] using hi
    have hagg : (isAgg ty).run P w = .ok true w := by
      unfold isAgg
      rw [Sem.run_bind, run_underlying hu w]
      cases d <;> simp_all
    simp only [Array.length_toList, Array.toArray_toList] at hl
    simp [loadVar, Sem.run_bind, hagg, sizeOf, typeInfo, hq, hs, hl]
/-- An operation that is no call, inside a fence: by what it hands back. -/
theorem wpListIn_give {F : Fence} {m : Nat} {ops : Array Oper} {rest : List Oper} {o : Oper} {a : Act} {w w' : World} {Q : Exit → Act → World → Prop} (v : Value) (hgd : o.guard = none) (hd : ∀ c, o.op ≠ .defer c) (ha : o.about P w a.eval = none)
    (h : (execOp a.eval o).run P w = .ok (.value v) w') (hK : wpListIn F m P ops Q rest (a.put o.dst v) w') : wpListIn F m P ops Q (o :: rest) a w := by
  refine wpListIn_plain hgd fun K hK' => ⟨fun f hf => (by rw [ha] at hf; cases hf), ?_⟩
  rw [Oper.semAt_plain F _ _ hd, h]
  exact hK' _ _ hK
theorem wpListIn_read {F : Fence} {m : Nat} {ops : Array Oper} {rest : List Oper} {o : Oper} {a : Act} {w : World} {Q : Exit → Act → World → Prop} (v : Value) (hgd : o.guard = none) (hd : ∀ c, o.op ≠ .defer c) (ha : o.about P w a.eval = none)
    (h : (execOp a.eval o).run P w = .ok (.value v) w) (hK : wpListIn F m P ops Q rest (a.put o.dst v) w) : wpListIn F m P ops Q (o :: rest) a w := wpListIn_give v hgd hd ha h hK
theorem exec_load_mid {o : Oper} {a : Act} {w : World} (ty : TypeId) (x : Operand) (ho : o.op = .load ty x)
    (g off : Nat) (hx : a.eval x = .pointer (some ⟨g, off, none⟩)) (t : TypeId) (cs sub : Array Value) (fr : Nat × Nat) (d : TypeDesc) (hg : w.heap[g]? = some (.cells cs t fr))
    (hu : P.underlying ty = some d) (hd : (match d with | .struct _ | .array _ _ => true | _ => false) = true) (hi : (P.info? ty).map (·.size) = some sub.size) (hs : ∀ j, j < sub.size → cs[off + j]? = sub[j]?) :
    (execOp a.eval o).run P w = .ok (.value (.agg sub)) w := by
  unfold execOp
  simp only [ho, hx, Instr.loadAt, Instr.sureAddr, Sem.run_bind, Sem.run_pure, Result.andThen_ok, run_loadVar_mid w g off t ty cs sub fr d hg hu hd hi hs]
theorem exec_store_mid {o : Oper} {a : Act} {w : World} (ty : TypeId) (x y : Operand) (ho : o.op = .store ty x y)
    (g off : Nat) (cells : Array Value) (hx : a.eval x = .pointer (some ⟨g, off, none⟩)) (hy : a.eval y = .agg cells)
    (t : TypeId) (old : Array Value) (hg : w.heap[g]? = some (.cells old t (0, 0))) (hi : (P.info? ty).map (·.size) = some cells.size)
    (hfit : off + cells.size ≤ old.size) (h1 : cells.all (·.oneCell') = true) :
    (execOp a.eval o).run P w = .ok .skip (w.setRow g (old.toList.take off ++ cells.toList ++ old.toList.drop (off + cells.size)).toArray) := by
  have := run_storeCells_at P g off t cells.toList 0 old w hg (by simpa using hfit) (fun v hv => (Array.all_eq_true_iff_forall_mem.1 h1) v (by simpa using hv))
  simp only [Nat.add_zero, Array.length_toList] at this
  have hst : (storeVar ty ⟨g, off, none⟩ (.agg cells)).run P w = .ok () (w.setRow g (old.toList.take off ++ cells.toList ++ old.toList.drop (off + cells.size)).toArray) := by
    cases hq : P.info? ty with
    | none => simp [hq] at hi
    | some i =>
      have hs : cells.size = i.size := by simp [hq] at hi; omega
      simp [storeVar, sizeOf, typeInfo, hq, Value.cells, ← hs, this]
  unfold execOp
  simp only [ho, hx, hy, Instr.storeAt, Instr.sureAddr, Sem.run_bind, Sem.run_pure, Result.andThen_ok, hst]
theorem wpListIn_skips {F : Fence} {m : Nat} {ops : Array Oper} {rest : List Oper} {o : Oper} {a : Act} {w w' : World} {Q : Exit → Act → World → Prop} (hgd : o.guard = none) (hd : ∀ c, o.op ≠ .defer c) (ha : o.about P w a.eval = none)
    (h : (execOp a.eval o).run P w = .ok .skip w') (hK : wpListIn F m P ops Q rest (a.put o.dst undef) w') : wpListIn F m P ops Q (o :: rest) a w := by
  refine wpListIn_plain hgd fun K hK' => ⟨fun f hf => (by rw [ha] at hf; cases hf), ?_⟩
  rw [Oper.semAt_plain F _ _ hd, h]
  exact hK' _ _ hK
end
/-- One step from a place with e errors. -/
def stepN (E e : Nat) (st : List Nat) (x : Nat × Nat × Nat) : List Nat := if e + errsN x.1 ≤ E then st.set (x.2.1 * 41 + x.2.2) (min (st.getD (x.2.1 * 41 + x.2.2) 120) (e + errsN x.1)) else st
/-- All steps from a place. -/
def relaxN (S R : By) (E : Nat) (st : List Nat) (i j : Nat) : List Nat := if st.getD (i * 41 + j) 120 = 120 then st else (nextI S R (i, j)).foldl (stepN E (st.getD (i * 41 + j) 120)) st
def rowF (S R : By) (E i : Nat) (j : Nat) (st : List Nat) : List Nat := (List.range j).foldl (fun st j => relaxN S R E st i j) st
def rowsF (S R : By) (E : Nat) (i : Nat) (st : List Nat) : List Nat := (List.range i).foldl (fun st i => rowF S R E i (R.length + 1) st) st
theorem rowF_succ (S R : By) (E i j : Nat) (st : List Nat) : rowF S R E i (j + 1) st = relaxN S R E (rowF S R E i j st) i j := by simp [rowF, List.range_succ]
theorem rowsF_succ (S R : By) (E i : Nat) (st : List Nat) : rowsF S R E (i + 1) st = rowF S R E i (R.length + 1) (rowsF S R E i st) := by simp [rowsF, List.range_succ]
/-- The row after more signs. -/
def sendN (S R : By) (E : Nat) (before : List Nat) : List Nat := (rowsF S R E (S.length + 1) (before ++ List.replicate (S.length * 41) 120)).drop (S.length * 41)
/-- So many rows of numbers of at most 120. -/
def OkL (N : Nat) (st : List Nat) : Prop := st.length = N * 41 ∧ ∀ x ∈ st, x ≤ 120
theorem OkL.get {N : Nat} {st : List Nat} (h : OkL N st) {k : Nat} (hk : k < N * 41) : ∃ e, st[k]? = some e ∧ st.getD k 120 = e ∧ e ≤ 120 := by
  have hlt : k < st.length := by rw [h.1]; exact hk
  exact ⟨st[k], List.getElem?_eq_getElem hlt, by simp [List.getD_eq_getElem?_getD, List.getElem?_eq_getElem hlt], h.2 _ (List.getElem_mem hlt)⟩
theorem OkL.set {N : Nat} {st : List Nat} (h : OkL N st) {k v : Nat} (hv : v ≤ 120) : OkL N (st.set k v) := by
  refine ⟨by rw [List.length_set]; exact h.1, fun x hx => ?_⟩
  rcases List.mem_or_eq_of_mem_set hx with hx | rfl
  · exact h.2 x hx
  · exact hv
theorem OkL.step {N E e : Nat} {st : List Nat} (h : OkL N st) (x : Nat × Nat × Nat) : OkL N (stepN E e st x) := by
  unfold stepN
  split
  · refine h.set ?_
    have : st.getD (x.2.1 * 41 + x.2.2) 120 ≤ 120 := by
      rw [List.getD_eq_getElem?_getD]
      cases hx : st[x.2.1 * 41 + x.2.2]? with
      | none => exact Nat.le_refl _
      | some y => exact h.2 y (List.mem_of_getElem? hx)
    omega
  · exact h
theorem OkL.steps {N E e : Nat} : ∀ (l : List (Nat × Nat × Nat)) {st : List Nat}, OkL N st → OkL N (l.foldl (stepN E e) st)
  | [], _, h => h
  | x :: l, _, h => OkL.steps l (h.step x)
theorem OkL.relax {N E : Nat} {S R : By} {st : List Nat} (h : OkL N st) (i j : Nat) : OkL N (relaxN S R E st i j) := by
  unfold relaxN
  split
  · exact h
  · exact OkL.steps _ h
theorem OkL.row {N E : Nat} {S R : By} {st : List Nat} (h : OkL N st) (i : Nat) : ∀ j, OkL N (rowF S R E i j st)
  | 0 => h
  | j + 1 => by rw [rowF_succ]; exact (OkL.row h i j).relax i j
theorem OkL.rows {N E : Nat} {S R : By} {st : List Nat} (h : OkL N st) : ∀ i, OkL N (rowsF S R E i st)
  | 0 => h
  | i + 1 => by rw [rowsF_succ]; exact (OkL.rows h i).row i _
theorem manyL_hope (n : Nat) : manyL (hopeL 41) n n = List.replicate (n * 41) 120 := by
  unfold manyL hopeL
  simp only [Nat.sub_self, Nat.zero_mul, List.replicate_zero, List.append_nil]
  rw [List.flatten_replicate_replicate]
theorem build_hope : Array.foldl (fun (cs : Array Value) (x : Value × Nat) => cs.setIfInBounds x.snd x.fst) #[.int .i64 0, .int .i64 0, .int .i64 0, .int .i64 0, .int .i64 0, .int .i64 0, .int .i64 0, .int .i64 0, .int .i64 0, .int .i64 0, .int .i64 0, .int .i64 0, .int .i64 0, .int .i64 0, .int .i64 0, .int .i64 0, .int .i64 0, .int .i64 0, .int .i64 0, .int .i64 0, .int .i64 0, .int .i64 0, .int .i64 0, .int .i64 0, .int .i64 0, .int .i64 0, .int .i64 0, .int .i64 0, .int .i64 0, .int .i64 0, .int .i64 0, .int .i64 0, .int .i64 0, .int .i64 0, .int .i64 0, .int .i64 0, .int .i64 0, .int .i64 0, .int .i64 0, .int .i64 0, .int .i64 0] (rowC (hopeL 41)).zipIdx 0 41 = rowC (hopeL 41) := by kernel_rfl
/-- The frame at the head of the outer loop, and of the inner one. -/
def FrO (more : ByteArray) (g3 g4 g6 g7 g8 N i : Nat) (tm : Array Value) (Ds : List Nat) : Act := { tmps := #[tm[0]?.getD undef, tm[1]?.getD undef, .string more, .pointer (some ⟨g3, 0, none⟩), .pointer (some ⟨g4, 0, none⟩), tm[5]?.getD undef, .pointer (some ⟨g6, 0, none⟩), .pointer (some ⟨g7, 0, none⟩), .pointer (some ⟨g8, 0, none⟩), tm[9]?.getD undef, tm[10]?.getD undef, tm[11]?.getD undef, tm[12]?.getD undef, tm[13]?.getD undef, tm[14]?.getD undef, tm[15]?.getD undef, tm[16]?.getD undef, tm[17]?.getD undef, tm[18]?.getD undef, tm[19]?.getD undef, tm[20]?.getD undef, tm[21]?.getD undef, tm[22]?.getD undef, tm[23]?.getD undef, tm[24]?.getD undef, tm[25]?.getD undef, tm[26]?.getD undef, tm[27]?.getD undef, tm[28]?.getD undef, tm[29]?.getD undef, iv N, iv i, tm[32]?.getD undef, tm[33]?.getD undef, tm[34]?.getD undef, tm[35]?.getD undef, tm[36]?.getD undef, tm[37]?.getD undef, tm[38]?.getD undef, tm[39]?.getD undef, tm[40]?.getD undef, tm[41]?.getD undef, tm[42]?.getD undef, tm[43]?.getD undef, tm[44]?.getD undef, tm[45]?.getD undef, tm[46]?.getD undef, tm[47]?.getD undef, tm[48]?.getD undef, tm[49]?.getD undef, tm[50]?.getD undef, tm[51]?.getD undef, tm[52]?.getD undef, tm[53]?.getD undef, tm[54]?.getD undef, tm[55]?.getD undef, tm[56]?.getD undef, tm[57]?.getD undef, tm[58]?.getD undef, tm[59]?.getD undef, tm[60]?.getD undef, tm[61]?.getD undef, tm[62]?.getD undef, tm[63]?.getD undef, tm[64]?.getD undef, tm[65]?.getD undef, tm[66]?.getD undef, tm[67]?.getD undef, tm[68]?.getD undef, tm[69]?.getD undef, tm[70]?.getD undef, tm[71]?.getD undef, tm[72]?.getD undef, tm[73]?.getD undef, tm[74]?.getD undef, tm[75]?.getD undef, tm[76]?.getD undef, tm[77]?.getD undef, tm[78]?.getD undef, tm[79]?.getD undef, tm[80]?.getD undef, tm[81]?.getD undef, tm[82]?.getD undef, tm[83]?.getD undef, tm[84]?.getD undef, tm[85]?.getD undef, tm[86]?.getD undef, tm[87]?.getD undef, tm[88]?.getD undef, tm[89]?.getD undef, tm[90]?.getD undef, tm[91]?.getD undef, tm[92]?.getD undef, tm[93]?.getD undef, tm[94]?.getD undef], defers := marksOf Ds }
def FrI (more : ByteArray) (g3 g4 g6 g7 g8 N : Nat) (M : Int) (i j : Nat) (tm : Array Value) (Ds : List Nat) : Act := { tmps := #[tm[0]?.getD undef, tm[1]?.getD undef, .string more, .pointer (some ⟨g3, 0, none⟩), .pointer (some ⟨g4, 0, none⟩), tm[5]?.getD undef, .pointer (some ⟨g6, 0, none⟩), .pointer (some ⟨g7, 0, none⟩), .pointer (some ⟨g8, 0, none⟩), iv i, tm[10]?.getD undef, tm[11]?.getD undef, tm[12]?.getD undef, tm[13]?.getD undef, tm[14]?.getD undef, tm[15]?.getD undef, tm[16]?.getD undef, tm[17]?.getD undef, tm[18]?.getD undef, tm[19]?.getD undef, tm[20]?.getD undef, tm[21]?.getD undef, tm[22]?.getD undef, tm[23]?.getD undef, tm[24]?.getD undef, tm[25]?.getD undef, tm[26]?.getD undef, tm[27]?.getD undef, tm[28]?.getD undef, tm[29]?.getD undef, iv N, iv i, tm[32]?.getD undef, tm[33]?.getD undef, tm[34]?.getD undef, tm[35]?.getD undef, tm[36]?.getD undef, iv M, iv j, tm[39]?.getD undef, tm[40]?.getD undef, tm[41]?.getD undef, tm[42]?.getD undef, tm[43]?.getD undef, tm[44]?.getD undef, tm[45]?.getD undef, tm[46]?.getD undef, tm[47]?.getD undef, tm[48]?.getD undef, tm[49]?.getD undef, tm[50]?.getD undef, tm[51]?.getD undef, tm[52]?.getD undef, tm[53]?.getD undef, tm[54]?.getD undef, tm[55]?.getD undef, tm[56]?.getD undef, tm[57]?.getD undef, tm[58]?.getD undef, tm[59]?.getD undef, tm[60]?.getD undef, tm[61]?.getD undef, tm[62]?.getD undef, tm[63]?.getD undef, tm[64]?.getD undef, tm[65]?.getD undef, tm[66]?.getD undef, tm[67]?.getD undef, tm[68]?.getD undef, tm[69]?.getD undef, tm[70]?.getD undef, tm[71]?.getD undef, tm[72]?.getD undef, tm[73]?.getD undef, tm[74]?.getD undef, tm[75]?.getD undef, tm[76]?.getD undef, tm[77]?.getD undef, tm[78]?.getD undef, tm[79]?.getD undef, tm[80]?.getD undef, tm[81]?.getD undef, tm[82]?.getD undef, tm[83]?.getD undef, tm[84]?.getD undef, tm[85]?.getD undef, tm[86]?.getD undef, tm[87]?.getD undef, tm[88]?.getD undef, tm[89]?.getD undef, tm[90]?.getD undef, tm[91]?.getD undef, tm[92]?.getD undef, tm[93]?.getD undef, tm[94]?.getD undef], defers := marksOf Ds }
/-- The frame in a round of the loop over the steps. -/
def FrB (more : ByteArray) (g3 g4 g6 g7 g8 ge gl h g1 g2 Bx N : Nat) (M : Int) (i j e k a c : Nat) (tm : Array Value) : Act := { tmps := #[tm[0]?.getD undef, tm[1]?.getD undef, .string more, .pointer (some ⟨g3, 0, none⟩), .pointer (some ⟨g4, 0, none⟩), tm[5]?.getD undef, .pointer (some ⟨g6, 0, none⟩), .pointer (some ⟨g7, 0, none⟩), .pointer (some ⟨g8, 0, none⟩), iv i, iv j, .pointer (some ⟨ge, 0, none⟩), iv k, .pointer (some ⟨Bx, 0, none⟩), tm[14]?.getD undef, tm[15]?.getD undef, tm[16]?.getD undef, tm[17]?.getD undef, tm[18]?.getD undef, tm[19]?.getD undef, tm[20]?.getD undef, tm[21]?.getD undef, tm[22]?.getD undef, tm[23]?.getD undef, tm[24]?.getD undef, tm[25]?.getD undef, tm[26]?.getD undef, tm[27]?.getD undef, tm[28]?.getD undef, tm[29]?.getD undef, iv N, iv i, tm[32]?.getD undef, tm[33]?.getD undef, tm[34]?.getD undef, tm[35]?.getD undef, tm[36]?.getD undef, iv M, iv j, .bool true, iv j, .slice (some ⟨h, 0, none⟩) N N, iv i, iv j, .pointer (some ⟨h, i * 41, none⟩), .pointer (some ⟨h, i * 41 + j, none⟩), iv e, iv e, .bool false, .pointer (some ⟨gl, 0, none⟩), iv i, iv j, .agg #[iv i, iv j], .func (.func 101) #[] #[.pointer (some ⟨g1, 0, none⟩), .pointer (some ⟨g2, 0, none⟩)], iv k, .agg #[iv a, iv c], tm[56]?.getD undef, tm[57]?.getD undef, tm[58]?.getD undef, tm[59]?.getD undef, tm[60]?.getD undef, tm[61]?.getD undef, tm[62]?.getD undef, tm[63]?.getD undef, tm[64]?.getD undef, tm[65]?.getD undef, tm[66]?.getD undef, tm[67]?.getD undef, tm[68]?.getD undef, tm[69]?.getD undef, tm[70]?.getD undef, tm[71]?.getD undef, tm[72]?.getD undef, tm[73]?.getD undef, tm[74]?.getD undef, tm[75]?.getD undef, tm[76]?.getD undef, tm[77]?.getD undef, tm[78]?.getD undef, tm[79]?.getD undef, tm[80]?.getD undef, tm[81]?.getD undef, tm[82]?.getD undef, tm[83]?.getD undef, tm[84]?.getD undef, tm[85]?.getD undef, tm[86]?.getD undef, tm[87]?.getD undef, tm[88]?.getD undef, tm[89]?.getD undef, tm[90]?.getD undef, tm[91]?.getD undef, tm[92]?.getD undef, tm[93]?.getD undef, tm[94]?.getD undef], defers := [] }
theorem row_over {a b : List Nat} (h : a.length ≤ b.length) : ((rowC a).toList.take 0 ++ (rowC b).toList ++ (rowC a).toList.drop (0 + (rowC b).size)).toArray = rowC b := by
  rw [rowC_size]
  simp only [rowC, List.take_zero, List.nil_append, Nat.zero_add]
  rw [← List.map_drop, List.drop_eq_nil_of_le h]
  simp
theorem below_of_grown {B W : World} (h : B.grownBy W none) : Below B.heap.size B W := ⟨h.os, h.tape, h.output, h.size, fun k hk => h.block k hk (by simp)⟩
theorem Box.row_far {w : World} {g q t : Nat} {cs c : Array Value} (h : Box w g t cs) (hne : g ≠ q) : Box (w.setRow q c) g t cs := by
  unfold Box at h ⊢
  rw [← h]
  simp [World.setRow, Array.getElem?_modify, Ne.symm hne]
/-- What send knows of its blocks. -/
structure SndI (w : World) (g3 g6 g7 g8 gl h N : Nat) (LA : Value) (read more : ByteArray) (E : Nat) (st : List Nat) (W : World) : Prop where
  b3 : Box W g3 103 #[LA, .string read, iv E]
  b6 : Box W g6 143 (rowC (hopeL 0))
  b7 : Box W g7 99 #[.pointer (some ⟨gl, 0, none⟩)]
  b8 : Box W g8 158 #[.slice (some ⟨h, 0, none⟩) N N]
  bl : Box W gl 137 (linesC more read)
  bh : Box W h 143 (rowC st)
  gr : Below w.heap.size w W
section
variable {w W W' : World} {g3 g6 g7 g8 gl h N E : Nat} {LA : Value} {read more : ByteArray} {st : List Nat}
theorem SndI.kept (s : SndI w g3 g6 g7 g8 gl h N LA read more E st W) (hb : Below W.heap.size W W') : SndI w g3 g6 g7 g8 gl h N LA read more E st W' :=
  ⟨s.b3.kept hb, s.b6.kept hb, s.b7.kept hb, s.b8.kept hb, s.bl.kept hb, s.bh.kept hb, up_later s.gr hb⟩
theorem SndI.off {row : Option Nat} {Bq : Nat} (s : SndI w g3 g6 g7 g8 gl h N LA read more E st W) (hg : W.grownBy W' row) (hwB : w.heap.size ≤ Bq) (hr : ∀ r, row = some r → Bq ≤ r ∧ ∃ o : Obj, W.heap[r]? = some o ∧ o.isCells = false) : SndI w g3 g6 g7 g8 gl h N LA read more E st W' :=
  ⟨s.b3.grown hg (box_off s.b3 hr), s.b6.grown hg (box_off s.b6 hr), s.b7.grown hg (box_off s.b7 hr), s.b8.grown hg (box_off s.b8 hr), s.bl.grown hg (box_off s.bl hr), s.bh.grown hg (box_off s.bh hr),
    ⟨hg.os.trans s.gr.os, hg.tape.trans s.gr.tape, hg.output.trans s.gr.output, Nat.le_trans s.gr.size hg.size, fun k hk => (hg.block k (Nat.lt_of_lt_of_le hk s.gr.size) (fun e => by have := (hr k e.symm).1; omega)).trans (s.gr.block k hk)⟩⟩
theorem SndI.put (s : SndI w g3 g6 g7 g8 gl h N LA read more E st W) (h6 : g6 ≠ h) (hw : w.heap.size ≤ h) (k x : Nat) : SndI w g3 g6 g7 g8 gl h N LA read more E (st.set k x) (W.setCell ⟨h, k, none⟩ (iv x)) := by
  have ne : ∀ {g t : Nat} {cs : Array Value}, Box W g t cs → t ≠ 143 → g ≠ h := fun hb ht e => hb.neq (p := ⟨h, 0, none⟩) s.bh ht e
  refine ⟨s.b3.far (p := ⟨h, k, none⟩) (ne s.b3 (by decide)) _, s.b6.far (p := ⟨h, k, none⟩) h6 _, s.b7.far (p := ⟨h, k, none⟩) (ne s.b7 (by decide)) _, s.b8.far (p := ⟨h, k, none⟩) (ne s.b8 (by decide)) _, s.bl.far (p := ⟨h, k, none⟩) (ne s.bl (by decide)) _, ?_, up_put s.gr hw _⟩
  have := s.bh.put k (iv x)
  rwa [rowC_set] at this
end
/-- What holds at the loops' heads. -/
def OInv (w : World) (g3 g4 g6 g7 g8 gl h N : Nat) (LA : Value) (read more : ByteArray) (E : Nat) (st0 : List Nat) (a : Act) (W : World) : Prop := ∃ (i : Nat) (tm : Array Value) (Ds : List Nat), a = FrO more g3 g4 g6 g7 g8 N i tm Ds ∧
  SndI w g3 g6 g7 g8 gl h N LA read more E (rowsF more.data.toList read.data.toList E i st0) W ∧ i ≤ N ∧ Ds.Nodup ∧ Marks w.heap.size Ds W
def IInv (w : World) (g3 g4 g6 g7 g8 gl h N i : Nat) (LA : Value) (read more : ByteArray) (E : Nat) (st0 : List Nat) (a : Act) (W : World) : Prop := ∃ (j : Nat) (tm : Array Value) (Ds : List Nat), a = FrI more g3 g4 g6 g7 g8 N ((read.size : Int) + 1) i j tm Ds ∧
  SndI w g3 g6 g7 g8 gl h N LA read more E (rowF more.data.toList read.data.toList E i j (rowsF more.data.toList read.data.toList E i st0)) W ∧ j ≤ read.size + 1 ∧ Ds.Nodup ∧ Marks w.heap.size Ds W

set_option maxRecDepth 100000 in
set_option maxHeartbeats 3000000 in
theorem send_in (A : Option Addr) (n cap : Nat) (read more : ByteArray) (E : Nat) (before : List Nat) (w : World) (hr9 : read.size ≤ 40) (hs9 : more.size ≤ 5) (hb : OkL 1 before) :
    CallsIn Fence.wide 9 Tryz.prog 89 #[.agg #[.slice A n cap, .string read, iv E], .agg (rowC before), .string more] w fun e w' => e = .returned (.agg (rowC (sendN more.data.toList read.data.toList E before))) ∧ Below w.heap.size w w' := by
  refine callsIn_of_wp_marks Tryz.func89 rfl trivial ?_ rfl
  simp only [Tryz.ntmps89, List.size_toArray, List.length_cons, List.length_nil, Nat.reduceAdd, Nat.reduceSub, Array.replicate_succ, Array.replicate_zero, List.push_toArray, List.append_toArray, List.nil_append, List.cons_append]
  gi_wp2_with fail
  refine ⟨trivial, ?_⟩
  refine (callsIn_wide.2 (newLines_any more read _)).mono ?_
  rintro e w1 ⟨gl, rfl, bL, hgl, hb1⟩
  have b3 : Box w1 w.heap.size 103 #[.slice A n cap, .string read, iv E] := ((((Box.new rfl).alloc _).alloc _)).kept hb1
  have b4 : Box w1 (w.heap.size + 1) 143 (rowC before) := ((Box.new (by simp)).alloc _).kept hb1
  have b6 : Box w1 (w.heap.size + 1 + 1) 143 (rowC (hopeL 0)) := (Box.new (by simp)).kept hb1
  have HB1 := Lib.hid (up_later (up_alloc (up_alloc (up_alloc (up0 (w := w)) _) _) _) hb1)
  have hz : w.heap.size + 1 + 1 + 1 ≤ gl := by simpa using hgl
  clear hb1 hgl
  gi_wp2_with fail
  refine ⟨trivial, ?_⟩
  refine (callsIn_wide.2 (hopeless_any _)).mono ?_
  rintro e w2 ⟨rfl, hb2⟩
  have B7 : Box w2 w1.heap.size 99 #[.pointer (some ⟨gl, 0, none⟩)] := (Box.new rfl).kept hb2
  have bL := (bL.alloc _).kept hb2
  have b3 := (b3.alloc _).kept hb2
  have b4 := (b4.alloc _).kept hb2
  have b6 := (b6.alloc _).kept hb2
  have HB2 := Lib.hid (up_later (up_alloc HB1.out _) hb2)
  have hl7 := bL.lt
  clear hb2
  have hbs := build_hope
  have hsz : (rowC (hopeL 41)).size = 41 := by kernel_rfl
  obtain ⟨H41, hH⟩ : ∃ H, rowC (hopeL 41) = H := ⟨_, rfl⟩
  have HH := Lib.hid hH
  rw [hH] at hbs hsz ⊢
  have HBS := Lib.hid hbs
  clear hH hbs
  gi_wp2_with fail
  rw [HBS.out]
  refine ⟨trivial, ?_⟩
  refine (callsIn_wide.2 (Repeat_rows w2.heap.size (more.size + 1) (hopeL 41) (by simp [hopeL]) _ (by omega) (by omega) (HH.out ▸ Box.new rfl))).mono ?_
  rintro e w3 ⟨h, rfl, hh, bH, hb3⟩
  have B7 := (B7.alloc _).kept hb3
  have bL := (bL.alloc _).kept hb3
  have b3 := (b3.alloc _).kept hb3
  have b4 := (b4.alloc _).kept hb3
  have b6 := (b6.alloc _).kept hb3
  have HB3 := Lib.hid (up_later (up_alloc HB2.out _) hb3)
  rw [manyL_hope] at bH
  clear hb3
  have b8 : Box (w3.alloc (.cells #[.slice (some ⟨h, 0, none⟩) (more.size + 1) (more.size + 1)] 158)) w3.heap.size 158 #[.slice (some ⟨h, 0, none⟩) (more.size + 1) (more.size + 1)] := Box.new rfl
  have c8 := b8.cell 0
  simp at c8
  gi_upto_region 3 with fail
  refine wpIn_region_lit ?_
  refine wpListIn_read (.slice (some ⟨h, 0, none⟩) (more.size + 1) (more.size + 1)) rfl (fun c e => by cases e) rfl (by go_simp) ?_
  refine wpListIn_read (.agg (rowC before)) rfl (fun c e => by cases e) rfl (exec_load_mid 143 (.tmp 4) rfl (w.heap.size + 1) 0 rfl 143 (rowC before) (rowC before) (0, 0) _ (b4.alloc _) Tryz.underlying143 rfl (by rw [rowC_size, hb.1]; exact info143) (fun j _ => by rw [Nat.zero_add])) ?_
  refine wpListIn_read (.pointer (some ⟨h, 0, none⟩)) rfl (fun c e => by cases e) rfl (by go_simp) ?_
  refine wpListIn_skips rfl (fun c e => by cases e) rfl (exec_store_mid 143 (.tmp 28) (.tmp 27) rfl h 0 (rowC before) rfl rfl 143 _ (bH.alloc _) (by rw [rowC_size, hb.1]; exact info143) (by rw [rowC_size, rowC_size, hb.1, List.length_replicate]; omega) (rowC_one _)) ?_
  have hrow : ((rowC (List.replicate ((more.size + 1) * 41) 120)).toList.take 0 ++ (rowC before).toList ++ (rowC (List.replicate ((more.size + 1) * 41) 120)).toList.drop (0 + (rowC before).size)).toArray = rowC (before ++ List.replicate (more.size * 41) 120) := by
    rw [rowC_size, hb.1]
    simp only [rowC, List.take_zero, List.nil_append, List.map_append, List.map_replicate, List.drop_replicate, Nat.zero_add, Nat.one_mul]
    rw [show (more.size + 1) * 41 - 41 = more.size * 41 by omega]
  rw [hrow]
  have hzh : w2.heap.size + 1 ≤ h := by simpa using hh
  have h2 := HB2.out.size
  have l6 := b6.lt
  have lH := bH.lt
  have h6 : w.heap.size + 1 + 1 ≠ h := by omega
  have hwh : w.heap.size ≤ h := by omega
  have hI : SndI w w.heap.size (w.heap.size + 1 + 1) w1.heap.size w3.heap.size gl h (more.size + 1) (.slice A n cap) read more E (before ++ List.replicate (more.size * 41) 120)
      ((w3.alloc (.cells #[.slice (some ⟨h, 0, none⟩) (more.size + 1) (more.size + 1)] 158)).setRow h (rowC (before ++ List.replicate (more.size * 41) 120))) := by
    have ne : ∀ {g t : Nat} {cs : Array Value}, Box w3 g t cs → t ≠ 143 → g ≠ h := fun hb ht e => hb.neq (p := ⟨h, 0, none⟩) bH ht e
    exact ⟨(b3.alloc _).row_far (ne b3 (by decide)), (b6.alloc _).row_far h6, (B7.alloc _).row_far (ne B7 (by decide)), b8.row_far (by omega), (bL.alloc _).row_far (ne bL (by decide)), Box.row (bH.alloc _), below_row (up_alloc HB3.out _) hwh _⟩
  obtain ⟨g6, hg6⟩ : ∃ g6, w.heap.size + 1 + 1 = g6 := ⟨_, rfl⟩
  obtain ⟨g4, hg4⟩ : ∃ g4, w.heap.size + 1 = g4 := ⟨_, rfl⟩
  obtain ⟨g7, hg7⟩ : ∃ g7, w1.heap.size = g7 := ⟨_, rfl⟩
  obtain ⟨g8, hg8⟩ : ∃ g8, w3.heap.size = g8 := ⟨_, rfl⟩
  obtain ⟨W0, hW0⟩ : ∃ W0, (w3.alloc (.cells #[.slice (some ⟨h, 0, none⟩) (more.size + 1) (more.size + 1)] 158)).setRow h (rowC (before ++ List.replicate (more.size * 41) 120)) = W0 := ⟨_, rfl⟩
  rw [hW0] at hI ⊢
  rw [hg6] at hI h6 ⊢
  rw [hg4, hg7, hg8]
  rw [hg7, hg8] at hI
  have HI := Lib.hid hI
  have hwg6 : w.heap.size ≤ g6 := by omega
  clear hW0 hrow hg6 hg4 hg7 hg8 b8 c8 b3 b4 b6 B7 bL bH hI hzh h2 l6 lH HB1 HB2 HB3 HH HBS hh hsz
  have c8 := HI.out.b8.cell 0
  simp at c8
  gi_wp2_with fail
  obtain ⟨N, hN⟩ : ∃ N, more.size + 1 = N := ⟨_, rfl⟩
  rw [hN] at HI ⊢
  rw [show ((more.size : Int) + 1) = (N : Int) by omega]
  obtain ⟨st0, hst⟩ : ∃ st, before ++ List.replicate (more.size * 41) 120 = st := ⟨_, rfl⟩
  have HSt := Lib.hid hst
  have HO := Lib.hid (show OkL N st0 by
    rw [← hst, ← hN]
    refine ⟨by rw [List.length_append, hb.1, List.length_replicate]; omega, fun x hx => ?_⟩
    rcases List.mem_append.1 hx with hx | hx
    · exact hb.2 x hx
    · rw [(List.mem_replicate.1 hx).2]; exact Nat.le_refl _)
  rw [hst] at HI
  have HN := Lib.hid hN
  have hN6 : 1 ≤ N ∧ N ≤ 6 := by omega
  clear c8 hst hN
  have fr : ∀ (a : Act), a = FrO more w.heap.size g4 g6 g7 g8 N 0 a.tmps [] → OInv w w.heap.size g4 g6 g7 g8 gl h N (.slice A n cap) read more E st0 a W0 := fun a ha => ⟨0, a.tmps, [], ha, HI.out, Nat.zero_le _, List.nodup_nil, fun D hD => by cases hD⟩
  refine wpIn_loop (OInv w w.heap.size g4 g6 g7 g8 gl h N (.slice A n cap) read more E st0) (fun a _ => N - (intOf (a.tmps.getD 31 undef)).toNat) (fr _ rfl) ?round
  case round =>
    clear fr HI W0
    rintro _ W ⟨i, tm, Ds, rfl, hI, hi, hnd, hDs⟩
    have HI := Lib.hid hI
    have HD := Lib.hid hDs
    have HNd := Lib.hid hnd
    obtain ⟨ds, hds⟩ : ∃ ds, marksOf Ds = ds := ⟨_, rfl⟩
    have HDs := Lib.hid hds
    have c3 := hI.b3.cell 1
    simp at c3
    have c8 := hI.b8.cell 0
    simp at c8
    unfold FrO
    rw [hds]
    clear hI hDs hnd hds
    by_cases hlt : i < N
    · have hlt' : (i : Int) < (N : Int) := by omega
      gi_wp2_with fail
      have fr : ∀ (a : Act), a = FrI more w.heap.size g4 g6 g7 g8 N ((read.size : Int) + 1) i 0 a.tmps Ds → IInv w w.heap.size g4 g6 g7 g8 gl h N i (.slice A n cap) read more E st0 a W := fun a ha => ⟨0, a.tmps, Ds, ha, HI.out, Nat.zero_le _, HNd.out, HD.out⟩
      refine wpIn_loop (IInv w w.heap.size g4 g6 g7 g8 gl h N i (.slice A n cap) read more E st0) (fun a _ => (read.size + 1) - (intOf (a.tmps.getD 38 undef)).toNat) (fr _ (by rw [← HDs.out]; rfl)) ?round2
      case round2 =>
        clear fr HI HD HNd HDs c3 c8
        rintro _ W ⟨j, tm, Ds, rfl, hI, hj, hnd, hDs⟩
        obtain ⟨st, hst⟩ : ∃ st, rowF more.data.toList read.data.toList E i j (rowsF more.data.toList read.data.toList E i st0) = st := ⟨_, rfl⟩
        rw [hst] at hI
        have hO := (HO.out.rows (E := E) (S := more.data.toList) (R := read.data.toList) i).row (E := E) (S := more.data.toList) (R := read.data.toList) i j
        rw [hst] at hO
        have HOk := Lib.hid hO
        have HSt2 := Lib.hid hst
        have HI := Lib.hid hI
        have HD := Lib.hid hDs
        have HNd := Lib.hid hnd
        obtain ⟨ds, hds⟩ : ∃ ds, marksOf Ds = ds := ⟨_, rfl⟩
        have HDs := Lib.hid hds
        have c8 := hI.b8.cell 0
        simp at c8
        unfold FrI
        rw [hds]
        clear hDs hnd hds hst hO
        by_cases hjt : j < read.size + 1
        · have hjt' : (j : Int) < (read.size : Int) + 1 := by omega
          have hj41 : (j : Int) < 41 := by omega
          have i0 : (0 : Int) ≤ (i : Int) := by omega
          have j0 : (0 : Int) ≤ (j : Int) := by omega
          obtain ⟨e, he1, he2, he3⟩ := HOk.out.get (k := i * 41 + j) (by omega)
          have q0 : W.cell? ⟨h, i * 41 + j, none⟩ = some (iv e) := by rw [hI.bh.cell, rowC_get, he1]; rfl
          have c7 : (W.alloc (.cells #[iv e] 3)).cell? ⟨g7, 0, none⟩ = some (.pointer (some ⟨gl, 0, none⟩)) := (hI.b7.alloc _).cell 0
          have hW := hI.gr.size
          have hI0 := hI
          clear hI
          by_cases h120 : e = 120
          · subst h120
            gi_wp2_with fail
            have fr : ∀ (a : Act) (W' : World), Below W.heap.size W W' → a = FrI more w.heap.size g4 g6 g7 g8 N ((read.size : Int) + 1) i (j + 1) a.tmps Ds → IInv w w.heap.size g4 g6 g7 g8 gl h N i (.slice A n cap) read more E st0 a W' := fun a W' hb ha =>
              ⟨j + 1, a.tmps, Ds, ha, by
                rw [rowF_succ, HSt2.out]
                unfold relaxN
                rw [if_pos he2]
                exact HI.out.kept hb, by omega, HNd.out, HD.out.kept hb⟩
            refine ⟨fr _ _ (up_alloc up0 _) (by rw [← HDs.out]; rfl), ?_⟩
            simp [intOf]
            omega
          have e120 : ((e : Int) == 120) = false := by rw [beq_eq_false_iff_ne]; omega
          gi_wp2_with fail
          refine ⟨trivial, ?_⟩
          refine (callsIn_wide.2 (next_any gl i j _)).mono ?_
          obtain ⟨ge, hge⟩ : ∃ ge, W.heap.size = ge := ⟨_, rfl⟩
          rw [hge]
          rintro _ W0 ⟨rfl, n1, n2, hb⟩
          obtain ⟨g1, hg1⟩ : ∃ g1, (W.alloc (.cells #[iv e] 3)).heap.size = g1 := ⟨_, rfl⟩
          have hz1 : g1 = ge + 1 := by rw [← hg1, ← hge]; simp
          rw [hg1] at n1 n2 hb ⊢
          have hNm := HN.out
          have bE : Box W0 ge 3 #[iv e] := (hb.block ge (by omega)).trans (Box.new hge.symm)
          have hb' : Below W.heap.size W W0 := up_later (up_alloc up0 _) (hg1.symm ▸ hb)
          have HI := Lib.hid (HI.out.kept hb')
          have HD := Lib.hid (HD.out.kept hb')
          have l1 := n1.lt
          have l2 := n2.lt
          have hwB := HI.out.gr.size
          have lh := HI.out.bh.lt
          have ll := HI.out.bl.lt
          have lD : Hid (∀ D ∈ Ds, D < W0.heap.size) := Lib.hid fun D hD => (Array.getElem?_eq_some_iff.1 (HD.out D hD).2).1
          have hlh : gl ≠ h := HI.out.bl.neq (p := ⟨h, 0, none⟩) HI.out.bh (by decide)
          have heh : ge ≠ h := bE.neq (p := ⟨h, 0, none⟩) HI.out.bh (by decide)
          have hhe : h < ge := by
            have := hI0.bh.lt
            omega
          have HSq := Lib.hid (next1_stops 8 (by omega) g1 (g1 + 1) gl i j W0.heap.size h h more read W0 (by omega) (by omega) (by omega) (by omega) n1 n2 HI.out.bl rfl ⟨by omega, by omega⟩ ⟨by omega, by omega⟩ ⟨hlh, hlh⟩)
          clear n1 n2 hb hb' hg1 hge c7 q0 hW hI0
          subst hz1
          gi_wp2_with fail
          refine wpIn_rangeFunc_ownH rfl (by omega) (gf := 101) (lb := #[.pointer (some ⟨ge + 1, 0, none⟩), .pointer (some ⟨ge + 1 + 1, 0, none⟩)]) rfl trivial callFunc_next1 HSq.out (fun {A B C} h k => KeptBut.trans h k) (fun W l o o' a b c d => kept_put _ _ _ W l o o' a b c d) (Below.refl _ _) (fun _ => rfl)
            (fun xs W => SndI w w.heap.size g6 g7 g8 gl h N (.slice A n cap) read more E ((xs.map (·.1)).foldl (stepN E e) st) W ∧ Box W ge 3 #[iv e] ∧ W0.heap.size ≤ W.heap.size ∧ Marks w.heap.size Ds W)
            (fun _ _ _ => False) ?hI (fun _ => fun _ _ _ _ h _ _ => h) ⟨HI.out, bE, Nat.le_refl _, HD.out⟩
            (fun x a' W => ∃ Bx, W0.heap.size ≤ Bx ∧ Box W Bx 89 #[iv x.1.2.1, iv x.1.2.2] ∧ a' = FrB more w.heap.size g4 g6 g7 g8 ge gl h (ge + 1) (ge + 1 + 1) Bx N ((read.size : Int) + 1) i j e x.1.1 x.1.2.1 x.1.2.2 tm) ?hAx ?assign ?body ?done ?stop
          case hI =>
            rintro xs X Y row ⟨h1, h2, h3, h4⟩ hg hr
            exact ⟨h1.off hg hwB hr, h2.grown hg (box_off h2 hr), Nat.le_trans h3 hg.size, h4.off hg fun r e D hD => by have := (hr r e).1; have := lD.out D hD; omega⟩
          case hAx =>
            rintro x a' _ X Y row ⟨Bx, h1, h2, h3⟩ hg hr
            exact ⟨Bx, h1, h2.grown hg (box_off h2 hr), h3⟩
          case assign =>
            rintro l xs x X K ⟨hF, hE9, hz, hD⟩ hK
            simp only [Nx.enc]
            gi_wp2_with fail
            exact hK _ _ ((KeepsOthers.alloc _ _).from _) (kept_of_below (up_alloc up0 _) hz) ⟨hF.kept (up_alloc up0 _), hE9.alloc _, by simp; omega, hD.kept (up_alloc up0 _)⟩ ⟨X.heap.size, hz, Box.new rfl, rfl⟩
          case body =>
            rintro l xs ⟨⟨k, a, c⟩, hk6, hq⟩ a' X hl ⟨rr, hrr⟩ ⟨hF, hE9, hz, hD⟩ ⟨Bx, hBx, bX, rfl⟩ hlen
            simp only at hk6 hq bX ⊢
            have hls := Lib.size_eq more
            have hlr := Lib.size_eq read
            have hin := aftI_in hk6 (by omega) (by omega) hq
            have ha : a ≤ more.size := by omega
            have hc : c ≤ read.size := by omega
            have hO1 := OkL.steps (E := E) (e := e) (xs.map (·.1)) HOk.out
            have hfold : (List.map (·.1) (xs ++ [(⟨(k, a, c), hk6, hq⟩ : Nx more.data.toList read.data.toList (i, j))])).foldl (stepN E e) st = stepN E e ((xs.map (·.1)).foldl (stepN E e) st) (k, a, c) := by
              rw [List.map_append, List.foldl_append]
              rfl
            obtain ⟨S1, hS1⟩ : ∃ S1, (xs.map (·.1)).foldl (stepN E e) st = S1 := ⟨_, rfl⟩
            rw [hS1] at hF hO1 hfold
            obtain ⟨o, ho1, ho2, ho3⟩ := hO1.get (k := a * 41 + c) (by omega)
            have hen : errsN k ≤ 1 := by unfold errsN; split <;> omega
            obtain ⟨en, hen2⟩ : ∃ en, errsN k = en := ⟨_, rfl⟩
            have hstep : stepN E e S1 (k, a, c) = if e + en ≤ E then S1.set (a * 41 + c) (min o (e + en)) else S1 := by
              unfold stepN
              simp only
              rw [hen2, ho2]
            rw [hen2] at hen
            have HFold := Lib.hid (hfold.trans hstep)
            have HEn := Lib.hid hen2
            have k0 : (0 : Int) ≤ (k : Int) := by omega
            have k1 : (k : Int) < 6 := by omega
            have hsum : IntKind.i64.wrap ((e : Int) + (en : Int)) = (e : Int) + (en : Int) := wrapK_in _ 3000 (by omega) (by omega)
            have a0 : (0 : Int) ≤ (a : Int) := by omega
            have a1 : (a : Int) < (N : Int) := by omega
            have c0 : (0 : Int) ≤ (c : Int) := by omega
            have c1 : (c : Int) < 41 := by omega
            have HF := Lib.hid hF
            have HDw := Lib.hid hD
            have b3 := hF.b3
            have b7 := hF.b7
            have b8 := hF.b8
            have bl := hF.bl
            have bh := hF.bh
            have b11 := hE9
            have bx := bX
            clear hls hlr hin hfold hstep hen2 hS1 hO1 hrr hF hD
            unfold FrB
            gi_wp2_with fail
            apply wpIn_region_by (open_round _) 10 [(Fact.eq _), (Fact.eq _), (Fact.eq _), (Fact.eq _), (Fact.eq _), (Fact.eq _), (Fact.eq _), (Fact.eq _), (Fact.eq _), (Fact.eq _)]
            case hm => kernel_rfl
            case hB => kernel_rfl
            case hpl => kernel_rfl
            case hA => (intro vs; simp only [List.take_succ_cons, List.take_zero, putAll, if_true, Act.put, List.setIfInBounds_toArray, List.set_cons_zero, List.set_cons_succ]; exact rfl)
            case hstep =>
              intro vs
              refine And.intro (fun w hw hd => ?_) ?_
              · refine ite_yes rfl ?_
                have c_b11 := fun i => (b11.kept hw).cell i
                have c_b7 := fun i => (b7.kept hw).cell i
                have q3 : w.cell? ⟨gl, 2 + k * 4 + 3, none⟩ = some (iv (en : Nat)) := HEn.out ▸ lines_err (bl.kept hw) hk6
                simp only [Gives]
                go_simp
                exact ⟨Below.refl _ _, rfl, fun h => by cases h⟩
              refine And.intro (fun w hw hd => ?_) ?_
              · refine ite_yes rfl ?_
                have c_b11 := fun i => (b11.kept hw).cell i
                have c_b7 := fun i => (b7.kept hw).cell i
                simp only [Gives]
                go_simp
                exact ⟨Below.refl _ _, rfl, fun h => by cases h⟩
              refine And.intro (fun w hw hd => ?_) ?_
              · refine ite_yes rfl ?_
                simp only [Gives]
                go_simp
                exact ⟨Below.refl _ _, rfl, fun h => by cases h⟩
              refine And.intro (fun w hw hd => ?_) ?_
              · have d1 := hd 1 (by decide) rfl
                change vs 1 = _ at d1
                refine ite_yes rfl ?_
                simp only [Gives]
                go_simp
                exact ⟨Below.refl _ _, rfl, fun h => by cases h⟩
              refine And.intro (fun w hw hd => ?_) ?_
              · have d3 := hd 3 (by decide) rfl
                change vs 3 = _ at d3
                refine ite_yes rfl ?_
                simp only [Gives]
                go_simp
                exact ⟨Below.refl _ _, rfl, fun h => by cases h⟩
              refine And.intro (fun w hw hd => ?_) ?_
              · have d4 := hd 4 (by decide) rfl
                change vs 4 = _ at d4
                have d2 := hd 2 (by decide) rfl
                change vs 2 = _ at d2
                refine ite_yes rfl ?_
                simp only [Gives]
                go_simp
                exact ⟨Below.refl _ _, rfl, fun h => by cases h⟩
              refine And.intro (fun w hw hd => ?_) ?_
              · have d5 := hd 5 (by decide) rfl
                change vs 5 = _ at d5
                refine ite_yes rfl ?_
                simp only [Gives]
                go_simp
                exact ⟨Below.refl _ _, rfl, fun h => by cases h⟩
              refine And.intro (fun w hw hd => ?_) ?_
              · have d6 := hd 6 (by decide) rfl
                change vs 6 = _ at d6
                refine ite_yes rfl ?_
                have c_b11 := fun i => (b11.kept hw).cell i
                have c_b7 := fun i => (b7.kept hw).cell i
                have q3 : w.cell? ⟨gl, 2 + k * 4 + 3, none⟩ = some (iv (en : Nat)) := HEn.out ▸ lines_err (bl.kept hw) hk6
                simp only [Gives]
                go_simp
                exact ⟨Below.refl _ _, rfl, fun h => by cases h⟩
              refine And.intro (fun w hw hd => ?_) ?_
              · have d0 := hd 0 (by decide) rfl
                change vs 0 = _ at d0
                have d7 := hd 7 (by decide) rfl
                change vs 7 = _ at d7
                refine ite_yes rfl ?_
                simp only [Gives]
                go_simp
                exact ⟨Below.refl _ _, rfl, fun h => by cases h⟩
              refine And.intro (fun w hw hd => ?_) ?_
              · have d8 := hd 8 (by decide) rfl
                change vs 8 = _ at d8
                refine ite_yes rfl ?_
                simp only [Gives]
                go_simp
                exact ⟨Below.refl _ _, rfl, fun h => by cases h⟩
              exact trivial
            intro vs wt hw hd hne hlo
            have d0 := hd 0 (by decide)
            change vs 0 = _ at d0
            have d1 := hd 1 (by decide)
            change vs 1 = _ at d1
            have d2 := hd 2 (by decide)
            change vs 2 = _ at d2
            have d3 := hd 3 (by decide)
            change vs 3 = _ at d3
            have d4 := hd 4 (by decide)
            change vs 4 = _ at d4
            have d5 := hd 5 (by decide)
            change vs 5 = _ at d5
            have d6 := hd 6 (by decide)
            change vs 6 = _ at d6
            have d7 := hd 7 (by decide)
            change vs 7 = _ at d7
            have d8 := hd 8 (by decide)
            change vs 8 = _ at d8
            have d9 := hd 9 (by decide)
            change vs 9 = _ at d9
            simp only [d0, d1, d2, d3, d4, d5, d6, d7, d8, d9, List.drop_succ_cons, List.drop_nil]
            have b11 := b11.kept hw
            have b7 := b7.kept hw
            have c_b11 := fun i => b11.cell i
            have f_b11 := fun i => b11.free i
            have c_b7 := fun i => b7.cell i
            have f_b7 := fun i => b7.free i
            clear hd hne hlo d0 d1 d2 d3 d4 d5 d6 d7 d8 d9
            have hz1 := hw.size
            have HF := Lib.hid (HF.out.kept hw)
            have HDw := Lib.hid (HDw.out.kept hw)
            have HE := Lib.hid (hE9.kept hw)
            have bx := bX.kept hw
            have HB1 := Lib.hid hw
            clear hw b11 b3 b7 b8 bl bh hE9 bX
            rename World => X1
            have c3 : X1.cell? ⟨w.heap.size, 2, none⟩ = some (iv E) := HF.out.b3.cell 2
            by_cases hle : e + en ≤ E
            · have hle' : (e : Int) + (en : Int) ≤ (E : Int) := by omega
              go_wp2_with fail
              gi_wp2_with fail
              have b8 := HF.out.b8
              have bh := HF.out.bh
              apply wpIn_region_by (open_round _) 9 [(Fact.eq _), (Fact.eq _), (Fact.eq _), (Fact.eq _), (Fact.eq _), (Fact.eq _), (Fact.eq _), (Fact.eq _), (Fact.eq _)]
              case hm => kernel_rfl
              case hB => kernel_rfl
              case hpl => kernel_rfl
              case hA => (intro vs; simp only [List.take_succ_cons, List.take_zero, putAll, if_true, Act.put, List.setIfInBounds_toArray, List.set_cons_zero, List.set_cons_succ]; exact rfl)
              case hstep =>
                intro vs
                refine And.intro (fun w hw hd => ?_) ?_
                · refine ite_yes rfl ?_
                  have c_b8 := fun i => (b8.kept hw).cell i
                  have c_bx := fun i => (bx.kept hw).cell i
                  simp only [Gives]
                  go_simp
                  exact ⟨Below.refl _ _, rfl, fun h => by cases h⟩
                refine And.intro (fun w hw hd => ?_) ?_
                · refine ite_yes rfl ?_
                  simp only [Gives]
                  go_simp
                  exact ⟨Below.refl _ _, rfl, fun h => by cases h⟩
                refine And.intro (fun w hw hd => ?_) ?_
                · have d1 := hd 1 (by decide) rfl
                  change vs 1 = _ at d1
                  refine ite_yes rfl ?_
                  have c_b8 := fun i => (b8.kept hw).cell i
                  have c_bx := fun i => (bx.kept hw).cell i
                  have q3 : w.cell? ⟨h, a * 41 + c, none⟩ = some (iv (o : Nat)) := by rw [(bh.kept hw).cell, rowC_get, ho1]; rfl
                  simp only [Gives]
                  go_simp
                  exact ⟨Below.refl _ _, rfl, fun h => by cases h⟩
                refine And.intro (fun w hw hd => ?_) ?_
                · refine ite_yes rfl ?_
                  simp only [Gives]
                  go_simp
                  exact ⟨Below.refl _ _, rfl, fun h => by cases h⟩
                refine And.intro (fun w hw hd => ?_) ?_
                · have d3 := hd 3 (by decide) rfl
                  change vs 3 = _ at d3
                  refine ite_yes rfl ?_
                  have c_b8 := fun i => (b8.kept hw).cell i
                  have c_bx := fun i => (bx.kept hw).cell i
                  have q3 : w.cell? ⟨h, a * 41 + c, none⟩ = some (iv (o : Nat)) := by rw [(bh.kept hw).cell, rowC_get, ho1]; rfl
                  simp only [Gives]
                  go_simp
                  exact ⟨Below.refl _ _, rfl, fun h => by cases h⟩
                refine And.intro (fun w hw hd => ?_) ?_
                · have d0 := hd 0 (by decide) rfl
                  change vs 0 = _ at d0
                  have d2 := hd 2 (by decide) rfl
                  change vs 2 = _ at d2
                  refine ite_yes rfl ?_
                  simp only [Gives]
                  go_simp
                  exact ⟨Below.refl _ _, rfl, fun h => by cases h⟩
                refine And.intro (fun w hw hd => ?_) ?_
                · have d5 := hd 5 (by decide) rfl
                  change vs 5 = _ at d5
                  have d4 := hd 4 (by decide) rfl
                  change vs 4 = _ at d4
                  refine ite_yes rfl ?_
                  simp only [Gives]
                  go_simp
                  exact ⟨Below.refl _ _, rfl, fun h => by cases h⟩
                refine And.intro (fun w hw hd => ?_) ?_
                · have d6 := hd 6 (by decide) rfl
                  change vs 6 = _ at d6
                  refine ite_yes rfl ?_
                  have c_b8 := fun i => (b8.kept hw).cell i
                  have c_bx := fun i => (bx.kept hw).cell i
                  have q3 : w.cell? ⟨h, a * 41 + c, none⟩ = some (iv (o : Nat)) := by rw [(bh.kept hw).cell, rowC_get, ho1]; rfl
                  simp only [Gives]
                  go_simp
                  exact ⟨Below.refl _ _, rfl, fun h => by cases h⟩
                refine And.intro (fun w hw hd => ?_) ?_
                · have d7 := hd 7 (by decide) rfl
                  change vs 7 = _ at d7
                  refine ite_yes rfl ?_
                  simp only [Gives]
                  go_simp
                  exact ⟨Below.refl _ _, rfl, fun h => by cases h⟩
                exact trivial
              intro vs wt hw hd hne hlo
              have d0 := hd 0 (by decide)
              change vs 0 = _ at d0
              have d1 := hd 1 (by decide)
              change vs 1 = _ at d1
              have d2 := hd 2 (by decide)
              change vs 2 = _ at d2
              have d3 := hd 3 (by decide)
              change vs 3 = _ at d3
              have d4 := hd 4 (by decide)
              change vs 4 = _ at d4
              have d5 := hd 5 (by decide)
              change vs 5 = _ at d5
              have d6 := hd 6 (by decide)
              change vs 6 = _ at d6
              have d7 := hd 7 (by decide)
              change vs 7 = _ at d7
              have d8 := hd 8 (by decide)
              change vs 8 = _ at d8
              simp only [d0, d1, d2, d3, d4, d5, d6, d7, d8, List.drop_succ_cons, List.drop_nil]
              have b8 := b8.kept hw
              have bx := bx.kept hw
              have c_b8 := fun i => b8.cell i
              have f_b8 := fun i => b8.free i
              have c_bx := fun i => bx.cell i
              have f_bx := fun i => bx.free i
              clear hd hne hlo d0 d1 d2 d3 d4 d5 d6 d7 d8
              have hz2 := hw.size
              have HF := Lib.hid (HF.out.kept hw)
              have HDw := Lib.hid (HDw.out.kept hw)
              have HE := Lib.hid (HE.out.kept hw)
              have HB2 := Lib.hid (up_later HB1.out hw)
              clear hw b8 bh c3 HB1
              rename World => X2
              go_wp2_with fail
              gi_wp2_with fail
              have b8 := HF.out.b8
              have HLe := Lib.hid (show leastI (o : Int) [(e : Int) + (en : Int)] = ((min o (e + en) : Nat) : Int) by simp only [leastI, List.foldl_cons, List.foldl_nil]; omega)
              apply wpIn_region_by (open_round _) 11 [(Fact.eq _), (Fact.eq _), (Fact.eq _), (Fact.eq _), (Fact.eq _), (Fact.eq _), (Fact.eq _), (Fact.sl 1 3 #[iv ((e : Int) + (en : Int))]), (Fact.eq _), (Fact.eq _), (Fact.eq _)]
              case hm => kernel_rfl
              case hB => kernel_rfl
              case hpl => kernel_rfl
              case hA => (intro vs; simp only [List.take_succ_cons, List.take_zero, putAll, if_true, Act.put, List.setIfInBounds_toArray, List.set_cons_zero, List.set_cons_succ]; exact rfl)
              case hstep =>
                intro vs
                refine And.intro (fun w hw hd => ?_) ?_
                · refine ite_yes rfl ?_
                  have c_b8 := fun i => (b8.kept hw).cell i
                  have c_bx := fun i => (bx.kept hw).cell i
                  simp only [Gives]
                  go_simp
                  exact ⟨Below.refl _ _, rfl, fun h => by cases h⟩
                refine And.intro (fun w hw hd => ?_) ?_
                · refine ite_yes rfl ?_
                  simp only [Gives]
                  go_simp
                  exact ⟨Below.refl _ _, rfl, fun h => by cases h⟩
                refine And.intro (fun w hw hd => ?_) ?_
                · have d1 := hd 1 (by decide) rfl
                  change vs 1 = _ at d1
                  refine ite_yes rfl ?_
                  have c_b8 := fun i => (b8.kept hw).cell i
                  have c_bx := fun i => (bx.kept hw).cell i
                  simp only [Gives]
                  go_simp
                  exact ⟨Below.refl _ _, rfl, fun h => by cases h⟩
                refine And.intro (fun w hw hd => ?_) ?_
                · refine ite_yes rfl ?_
                  simp only [Gives]
                  go_simp
                  exact ⟨Below.refl _ _, rfl, fun h => by cases h⟩
                refine And.intro (fun w hw hd => ?_) ?_
                · have d3 := hd 3 (by decide) rfl
                  change vs 3 = _ at d3
                  refine ite_yes rfl ?_
                  have c_b8 := fun i => (b8.kept hw).cell i
                  have c_bx := fun i => (bx.kept hw).cell i
                  simp only [Gives]
                  go_simp
                  exact ⟨Below.refl _ _, rfl, fun h => by cases h⟩
                refine And.intro (fun w hw hd => ?_) ?_
                · refine ite_yes rfl ?_
                  simp only [Gives]
                  go_simp
                  exact ⟨Below.refl _ _, rfl, fun h => by cases h⟩
                refine And.intro (fun w hw hd => ?_) ?_
                · refine ite_yes rfl ?_
                  simp only [Gives]
                  go_simp
                  exact ⟨Below.refl _ _, rfl, fun h => by cases h⟩
                refine And.intro (fun w hw hd => ?_) ?_
                · have d6 := hd 6 (by decide) rfl
                  change vs 6 = _ at d6
                  refine ite_yes rfl ?_
                  simp only [Gives]
                  go_simp
                  exact ⟨(Below.refl _ _).alloc (Nat.le_refl _) _, ⟨_, rfl, Box.new rfl⟩, fun h => by cases h⟩
                refine And.intro (fun w hw hd => ?_) ?_
                · have d5 := hd 5 (by decide) rfl
                  change vs 5 = _ at d5
                  have d7 := hd 7 (by decide) rfl
                  obtain ⟨n7, d7, N7⟩ := d7
                  refine ite_yes rfl ?_
                  simp only [Gives]
                  go_simp
                  refine (least_any o _ [(e : Int) + (en : Int)] w (ints_one N7)).mono ?_
                  rintro e w1 ⟨rfl, hb⟩
                  exact ⟨_, rfl, hb, rfl, fun h => by cases h⟩
                refine And.intro (fun w hw hd => ?_) ?_
                · have d0 := hd 0 (by decide) rfl
                  change vs 0 = _ at d0
                  have d2 := hd 2 (by decide) rfl
                  change vs 2 = _ at d2
                  refine ite_yes rfl ?_
                  simp only [Gives]
                  go_simp
                  exact ⟨Below.refl _ _, rfl, fun h => by cases h⟩
                refine And.intro (fun w hw hd => ?_) ?_
                · have d9 := hd 9 (by decide) rfl
                  change vs 9 = _ at d9
                  have d4 := hd 4 (by decide) rfl
                  change vs 4 = _ at d4
                  refine ite_yes rfl ?_
                  simp only [Gives]
                  go_simp
                  exact ⟨Below.refl _ _, rfl, fun h => by cases h⟩
                exact trivial
              intro vs wt hw hd hne hlo
              have d0 := hd 0 (by decide)
              change vs 0 = _ at d0
              have d1 := hd 1 (by decide)
              change vs 1 = _ at d1
              have d2 := hd 2 (by decide)
              change vs 2 = _ at d2
              have d3 := hd 3 (by decide)
              change vs 3 = _ at d3
              have d4 := hd 4 (by decide)
              change vs 4 = _ at d4
              have d5 := hd 5 (by decide)
              change vs 5 = _ at d5
              have d6 := hd 6 (by decide)
              change vs 6 = _ at d6
              have d7 := hd 7 (by decide)
              obtain ⟨n7, d7, N7⟩ := d7
              have d8 := hd 8 (by decide)
              change vs 8 = _ at d8
              have d9 := hd 9 (by decide)
              change vs 9 = _ at d9
              have d10 := hd 10 (by decide)
              change vs 10 = _ at d10
              simp only [d0, d1, d2, d3, d4, d5, d6, d8, d9, d10, List.drop_succ_cons, List.drop_zero]
              have b8 := b8.kept hw
              have bx := bx.kept hw
              have c_b8 := fun i => b8.cell i
              have f_b8 := fun i => b8.free i
              have c_bx := fun i => bx.cell i
              have f_bx := fun i => bx.free i
              clear hd hne hlo d0 d1 d2 d3 d4 d5 d6 d8 d9 d10
              have hz3 := hw.size
              have HF := Lib.hid (HF.out.kept hw)
              have HDw := Lib.hid (HDw.out.kept hw)
              have HE := Lib.hid (HE.out.kept hw)
              have HB3 := Lib.hid (up_later HB2.out hw)
              clear hw b8 bx HB2
              rename World => X3
              rw [HLe.out]
              have ch : X3.cell? ⟨h, a * 41 + c, none⟩ = some (iv (o : Nat)) := by rw [HF.out.bh.cell, rowC_get, ho1]; rfl
              have fh := HF.out.bh.free (a * 41 + c)
              go_wp2_with fail
              gi_wp2_with fail
              have gS := grownBy_set X3 h (a * 41 + c) (iv ((min o (e + en) : Nat) : Int))
              have hz4 := gS.size
              have hz5 : W0.heap.size ≤ X3.heap.size := by omega
              refine ⟨(KeepsFrom.of_grownBy (grown_of_below HB3.out) (fun x e => by cases e)).trans ((KeepsOthers.setCell _ _ _).from _), ⟨Nat.le_trans HB3.out.size hz4, fun x hx h1 h2 => (Below.heap_setCell X3 ⟨h, a * 41 + c, none⟩ _ x h1).trans (HB3.out.block x (by omega))⟩, ?_, HE.out.far (p := ⟨h, a * 41 + c, none⟩) heh _, Nat.le_trans hz5 hz4, HDw.out.off gS fun r hr D hD e2 => ?_⟩
              · rw [HFold.out, if_pos hle]
                exact HF.out.put h6 hwh _ _
              · obtain rfl := Option.some.inj hr
                subst e2
                have h1 := (HDw.out D hD).2
                rw [show X3.heap[D]? = _ from HF.out.bh] at h1
                cases h1
            · have hle' : ¬ (e : Int) + (en : Int) ≤ (E : Int) := by omega
              go_wp2_with fail
              gi_wp2_with fail
              refine ⟨KeepsFrom.of_grownBy (grown_of_below HB1.out) (fun x e => by cases e), kept_of_below HB1.out hz, ?_, HE.out, by omega, HDw.out⟩
              rw [HFold.out, if_neg hle]
              exact HF.out
          case done =>
            rintro D xs X hD hxs ⟨hF, hE9, hz, hDw⟩ hK
            have hstep : rowF more.data.toList read.data.toList E i (j + 1) (rowsF more.data.toList read.data.toList E i st0) = (xs.map (·.1)).foldl (stepN E e) st := by
              rw [rowF_succ, HSt2.out]
              unfold relaxN
              rw [if_neg (by rw [he2]; exact h120), he2, hxs]
            gi_wp2_with fail
            have fr : ∀ (a : Act), a = FrI more w.heap.size g4 g6 g7 g8 N ((read.size : Int) + 1) i (j + 1) a.tmps (D :: Ds) → IInv w w.heap.size g4 g6 g7 g8 gl h N i (.slice A n cap) read more E st0 a X := fun a ha =>
              ⟨j + 1, a.tmps, D :: Ds, ha, hstep ▸ hF, by omega, List.nodup_cons.2 ⟨fun h => by have := lD.out D h; omega, HNd.out⟩, fun E hE => by
                rcases List.mem_cons.1 hE with rfl | hE
                · exact ⟨Nat.le_trans hwB hD, hK⟩
                · exact hDw E hE⟩
            refine ⟨fr _ (by rw [← HDs.out]; rfl), ?_⟩
            simp [intOf]
            omega
          case stop =>
            rintro D cc pre X hD hSp h
            exact h.elim
        · have hje : j = read.size + 1 := by omega
          subst hje
          have hrow : rowsF more.data.toList read.data.toList E (i + 1) st0 = st := by rw [rowsF_succ, ← Lib.size_eq]; exact HSt2.out
          gi_wp2_with fail
          have fr : ∀ (a : Act), a = FrO more w.heap.size g4 g6 g7 g8 N (i + 1) a.tmps Ds → OInv w w.heap.size g4 g6 g7 g8 gl h N (.slice A n cap) read more E st0 a W := fun a ha => ⟨i + 1, a.tmps, Ds, ha, hrow.symm ▸ HI.out, by omega, HNd.out, HD.out⟩
          refine ⟨fr _ (by rw [← HDs.out]; rfl), ?_⟩
          simp [intOf]
          omega
    · have hie : i = N := by omega
      subst hie
      have hNm := HN.out
      have hOk := HO.out.rows (E := E) (S := more.data.toList) (R := read.data.toList) i
      obtain ⟨st, hst⟩ : ∃ st, rowsF more.data.toList read.data.toList E i st0 = st := ⟨_, rfl⟩
      have HR := Lib.hid (show st.drop (more.size * 41) = sendN more.data.toList read.data.toList E before by
        rw [← hst]
        unfold sendN
        rw [← Lib.size_eq, HSt.out, hNm])
      rw [hst] at hOk HI
      have hlen : (st.drop (more.size * 41)).length = 41 := by
        rw [List.length_drop, hOk.1]
        omega
      have hsi : (Tryz.prog.info? 143).map (·.size) = some (rowC (st.drop (more.size * 41))).size := by rw [rowC_size, hlen]; exact info143
      have m0 : (0 : Int) ≤ (more.size : Int) := by omega
      have m1 : (more.size : Int) < (i : Int) := by omega
      gi_upto_region 21 with fail
      refine wpIn_region_lit ?_
      refine wpListIn_read (.slice (some ⟨h, 0, none⟩) i i) rfl (fun c e => by cases e) rfl (by go_simp) ?_
      refine wpListIn_read (.string more) rfl (fun c e => by cases e) rfl (by go_simp) ?_
      refine wpListIn_read (iv more.size) rfl (fun c e => by cases e) rfl (by go_simp) ?_
      refine wpListIn_read (.pointer (some ⟨h, more.size * 41, none⟩)) rfl (fun c e => by cases e) rfl (by go_simp) ?_
      refine wpListIn_read (.agg (rowC (st.drop (more.size * 41)))) rfl (fun c e => by cases e) rfl (exec_load_mid 143 (.tmp 93) rfl h (more.size * 41) rfl 143 (rowC st) _ (0, 0) _ HI.out.bh Tryz.underlying143 rfl hsi (fun j _ => by rw [rowC_get, rowC_get, List.getElem?_drop])) ?_
      refine wpListIn_skips rfl (fun c e => by cases e) rfl (exec_store_mid 143 (.tmp 6) (.tmp 94) rfl g6 0 (rowC (st.drop (more.size * 41))) rfl rfl 143 _ HI.out.b6 hsi (by rw [rowC_size, hlen, rowC_size]; exact Nat.le_refl _) (rowC_one _)) ?_
      rw [row_over (by rw [hlen]; simp [hopeL])]
      have B6 := Box.row (cs' := rowC (st.drop (more.size * 41))) HI.out.b6
      have HB := Lib.hid (below_row HI.out.gr hwg6 (rowC (st.drop (more.size * 41))))
      have HDm : Hid (Marks w.heap.size Ds (W.setRow g6 (rowC (st.drop (more.size * 41))))) := Lib.hid fun D hD => by
        refine ⟨(HD.out D hD).1, ?_⟩
        have h1 := (HD.out D hD).2
        have hne : g6 ≠ D := fun e => by
          subst e
          rw [show W.heap[g6]? = _ from HI.out.b6] at h1
          cases h1
        rw [← h1]
        simp [World.setRow, Array.getElem?_modify, hne]
      refine wpListIn_nil ?_
      gi_wp2_with fail
      show LeavesInM _ _ _ _ _ _ ds _ _
      rw [← HDs.out]
      refine leaves_marks Ds _ HNd.out (fun D hD => (HDm.out D hD).2) fun Wf hWf => ?_
      have B6f : Box Wf g6 143 (rowC (st.drop (more.size * 41))) := (hWf.2.2.2.2 g6 fun hD => by
        have h1 := (HDm.out g6 hD).2
        rw [show (W.setRow g6 _).heap[g6]? = _ from B6] at h1
        cases h1).trans B6
      refine ⟨_, results_cell rfl rfl B6f Tryz.underlying143 rfl hsi, by rw [HR.out], below_of_grown (gone_grown (grown_of_below HB.out) hWf HDm.out)⟩
theorem send_any (A : Option Addr) (n cap : Nat) (read more : ByteArray) (E : Nat) (before : List Nat) (w : World) (hr9 : read.size ≤ 40) (hs9 : more.size ≤ 5) (hb : OkL 1 before) :
    Calls Tryz.prog 89 #[.agg #[.slice A n cap, .string read, iv E], .agg (rowC before), .string more] w fun e w' => e = .returned (.agg (rowC (sendN more.data.toList read.data.toList E before))) ∧ Below w.heap.size w w' :=
  callsIn_wide.1 (send_in A n cap read more E before w hr9 hs9 hb)
theorem sendN_ok {S R : By} {E : Nat} {before : List Nat} (h : OkL 1 before) : OkL 1 (sendN S R E before) := by
  have h0 : OkL (S.length + 1) (before ++ List.replicate (S.length * 41) 120) := by
    refine ⟨by rw [List.length_append, h.1, List.length_replicate]; omega, fun x hx => ?_⟩
    rcases List.mem_append.1 hx with hx | hx
    · exact h.2 x hx
    · rw [(List.mem_replicate.1 hx).2]; exact Nat.le_refl _
  have h1 := h0.rows (E := E) (S := S) (R := R) (S.length + 1)
  unfold sendN
  exact ⟨by rw [List.length_drop, h1.1]; omega, fun x hx => h1.2 x (List.mem_of_mem_drop hx)⟩
end Go.Proofs.YtonekgefegfapaaGreat
