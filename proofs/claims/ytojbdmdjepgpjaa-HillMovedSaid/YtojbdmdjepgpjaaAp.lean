/-
  PLAIN: a slice that reads as a list of structs is appended to a slice of the caller's own; a cell of such a slice is put anew. No function of the program is named.
-/
import Derived.Test.YtojbdmdjepgpjaaMb
namespace Go.Proofs.Ytojbdmdjepgpjaa
open Go.RowKit

section
variable {P : Program}
theorem append_nil_run (w : World) (base : Nat) (t ty e : TypeId) (i : TypeInfo) (size : Nat) (ht : P.underlying t = some (.slice e)) (hi : P.info? e = some i)
    (v : Value) (n : Nat) (xs : List Value) (hown : w.ownsRow base e size v n xs) (c : Nat) :
    (Builtin.append_ #[t, t] ty #[v, .slice none 0 c]).run P w = (Builtin.append_ #[t, t] ty #[v, .slice (some ⟨0, 0, none⟩) 0 c]).run P w := by
  rcases hown.2 with ⟨rfl, rfl⟩ | ⟨g, cap, cur, rfl, hbg, hg, hnc, hcm, hcs, htake⟩
  · simp [Builtin.append_, run_underlying ht, sizeOf, typeInfo, hi, Builtin.lenOf, Builtin.firstCells, loadCells, loadCellsFrom]
  · simp [Builtin.append_, run_underlying ht, sizeOf, typeInfo, hi, Builtin.lenOf, Builtin.firstCells, loadCells, loadCellsFrom, hnc]
theorem flat_get {α : Type} {cells : α → List Value} {sz : Nat} (hsz : ∀ x, (cells x).length = sz) (h0 : 0 < sz) : ∀ (l : List α) (j : Nat) (u : Value), (l.flatMap cells)[j]? = some u → ∃ x, l[j / sz]? = some x ∧ (cells x)[j % sz]? = some u
  | [], j, u, h => by simp at h
  | a :: l, j, u, h => by
    rw [List.flatMap_cons] at h
    by_cases hj : j < sz
    · rw [List.getElem?_append_left (by rw [hsz]; exact hj)] at h
      exact ⟨a, by rw [Nat.div_eq_of_lt hj]; rfl, by rw [Nat.mod_eq_of_lt hj]; exact h⟩
    · rw [List.getElem?_append_right (by rw [hsz]; omega), hsz] at h
      obtain ⟨x, hx, hu⟩ := flat_get hsz h0 l (j - sz) u h
      have e1 : j / sz = (j - sz) / sz + 1 := by
        have := Nat.div_eq_sub_div h0 (by omega : sz ≤ j)
        exact this
      have e2 : j % sz = (j - sz) % sz := Nat.mod_eq_sub_mod (by omega)
      exact ⟨x, by rw [e1]; simpa using hx, by rw [e2]; exact hu⟩
theorem flat_len {α : Type} {cells : α → List Value} {sz : Nat} (hsz : ∀ x, (cells x).length = sz) (l : List α) : (l.flatMap cells).length = l.length * sz := by
  induction l with
  | nil => simp
  | cons a l ih => rw [List.flatMap_cons, List.length_append, hsz, ih, List.length_cons, Nat.succ_mul]; omega
/-- At the operation: 'append' of all that a slice reads as. -/
theorem wpList_append_rows {ops : Array Oper} {rest : List Oper} {o : Oper} {a : Act} {Q : Exit → Act → World → Prop} {w : World} (hgd : o.guard = none) (s x : Operand) (t : TypeId)
    (ho : o.op = .call { callee := .builtin .append, args := #[s, x], argTypes := #[t, t] })
    (base : Nat) (e : TypeId) (i : TypeInfo) (z : Value) (size bytes : Nat) (ht : P.underlying t = some (.slice e)) (hi : P.info? e = some i) (hz : i.zero = some z)
    (hsize : i.size = size) (hby : i.bytes = bytes) (hzs : z.cells.size = size) (hsz : 0 < size)
    (v : Value) (n : Nat) (xs : List Value) (hs : a.eval s = v) (hown : w.ownsRow base e size v n xs)
    {α : Type} (cells : α → List Value) (l : List α) (u : Value) (hx : a.eval x = u) (hR : RowsAt w u size cells l) (hc : ∀ x, (cells x).length = size) (h1 : ∀ x, ∀ y ∈ cells x, y.oneCell' = true)
    (h63 : n + l.length ≤ maxLen) (hbytes : (n + l.length) * bytes ≤ 140737488355328) (hbase : base ≤ w.heap.size)
    (h : ∀ v' w', w'.ownsRow base e size v' (n + l.length) (xs ++ l.flatMap cells) → w.grownBy w' v.ownBlock → (v'.ownBlock = v.ownBlock ∨ v'.ownBlock = some w.heap.size) → wpList P ops Q rest (a.put o.dst v') w') :
    wpList P ops Q (o :: rest) a w := by
  refine wpList_plain hgd fun K hK => ?_
  obtain ⟨_, A, cap, rfl, _, _, hcell⟩ := hR
  have key : ∃ v' w', (Builtin.append_ #[t, t] o.type #[v, .slice A l.length cap]).run P w = .ok v' w' ∧ w'.ownsRow base e size v' (n + l.length) (xs ++ l.flatMap cells) ∧ w.grownBy w' v.ownBlock ∧ (v'.ownBlock = v.ownBlock ∨ v'.ownBlock = some w.heap.size) := by
    have hl := flat_len hc l
    have ho1 : ∀ y ∈ l.flatMap cells, y.oneCell' = true := fun y hy => by
      obtain ⟨x, _, hy⟩ := List.mem_flatMap.1 hy
      exact h1 x y hy
    by_cases hne : l = []
    · subst hne
      have r0 := run_append_own_at (P := P) w base t o.type e i z size bytes ht hi hz hsize hby hzs hsz v n xs hown
      cases A with
      | none =>
        obtain ⟨v', w', hr, h2, h3, _, h5⟩ := r0 ⟨0, 0, none⟩ 0 cap [] (by simp) (by simp) (by simp) h63 hbytes hbase
        refine ⟨v', w', ?_, h2, h3, h5⟩
        have hq := append_nil_run (P := P) w base t o.type e i size ht hi v n xs hown cap
        exact hq.trans hr
      | some ad =>
        obtain ⟨v', w', hr, h2, h3, _, h5⟩ := r0 ad 0 cap [] (by simp) (by simp) (by simp) h63 hbytes hbase
        exact ⟨v', w', hr, h2, h3, h5⟩
    · obtain ⟨b, off, rfl, _, hcl⟩ := hcell hne
      obtain ⟨v', w', hr, h2, h3, _, h5⟩ := run_append_own_at (P := P) w base t o.type e i z size bytes ht hi hz hsize hby hzs hsz v n xs hown ⟨b, off, none⟩ l.length cap (l.flatMap cells) hl (fun j y hy => by
        obtain ⟨x, hx, hu⟩ := flat_get hc hsz l j y hy
        have := hcl _ x hx _ y hu
        have e1 : (⟨b, off, none⟩ : Addr).add j = ⟨b, off + j, none⟩ := by
          unfold Addr.add
          by_cases h : j = 0 <;> simp [h]
        have e2 : off + j / size * size + j % size = off + j := by
          have := Nat.div_add_mod j size
          rw [Nat.mul_comm] at this
          omega
        rw [e1, ← e2]
        exact this) ho1 h63 hbytes hbase
      exact ⟨v', w', hr, h2, h3, h5⟩
  obtain ⟨v', w', hr, h2, h3, h5⟩ := key
  unfold Oper.wp execOp
  simp only [ho, resolve, invoke, builtin, Sem.run_bind, Sem.run_pure, Result.andThen_ok, List.map_toArray, List.map_cons, List.map_nil, hs, hx, hr]
  exact hK _ _ (h v' w' h2 h3 h5)
end

section
variable {P : Program}
/-- 'append' of all that a slice reads as, onto an empty slice of the call's own. -/
theorem run_append_fresh (w : World) (n0 : Nat) (t ty e : TypeId) (i : TypeInfo) (z : Value) (size bytes : Nat) (ht : P.underlying t = some (.slice e)) (hi : P.info? e = some i) (hz : i.zero = some z)
    (hsize : i.size = size) (hby : i.bytes = bytes) (hzs : z.cells.size = size) (hsz : 0 < size) (g : Nat) (hg : Box w g e #[]) (hn0 : n0 ≤ g)
    {α : Type} (cells : α → List Value) (l : List α) (u : Value) (hR : RowsAt w u size cells l) (hc : ∀ x, (cells x).length = size) (hbytes : l.length * bytes ≤ 140737488355328) :
    ∃ A m p w', (Builtin.append_ #[t, t] ty #[.slice (some ⟨g, 0, none⟩) 0 0, u]).run P w = .ok (.slice A m p) w' ∧ w'.ownsRow n0 e size (.slice A m p) l.length (l.flatMap cells) ∧ Below w.heap.size w w' := by
  subst hsize
  subst hby
  obtain ⟨h1000, A, cap, rfl, _, _, hcell⟩ := hR
  have hlt := hg.lt
  by_cases hne : l = []
  · subst hne
    refine ⟨some ⟨g, 0, none⟩, 0, 0, w, ?_, ⟨by simp, .inr ⟨g, 0, #[], rfl, hn0, hg, by simp, by unfold maxLen; omega, by simp, by simp⟩⟩, Below.refl _ _⟩
    simp [Builtin.append_, run_underlying ht, sizeOf, typeInfo, hi, Builtin.lenOf, Builtin.firstCells]
    cases A <;> simp [loadCells, loadCellsFrom, storeCells]
  · have hpos : 0 < l.length := List.length_pos_iff.2 hne
    obtain ⟨b, off, rfl, _, hcl⟩ := hcell hne
    have hl := flat_len hc l
    have hnews : ∀ j v, (l.flatMap cells)[j]? = some v → w.cell? ((⟨b, off, none⟩ : Addr).add j) = some v := fun j y hy => by
      obtain ⟨x, hx, hu⟩ := flat_get hc hsz l j y hy
      have := hcl _ x hx _ y hu
      have e1 : (⟨b, off, none⟩ : Addr).add j = ⟨b, off + j, none⟩ := by
        unfold Addr.add
        by_cases h : j = 0 <;> simp [h]
      have e2 : off + j / i.size * i.size + j % i.size = off + j := by
        have := Nat.div_add_mod j i.size
        rw [Nat.mul_comm] at this
        omega
      rw [e1, ← e2]
      exact this
    have hr := run_append_grow (P := P) w t ty e i z ht hi hz ⟨g, 0, none⟩ 0 0 [] (by simp) (fun j v h => by simp at h) ⟨b, off, none⟩ l.length cap (l.flatMap cells) hl hnews (by omega) (by simp; omega) (by rw [Nat.zero_add]; exact growslice_fits hpos hbytes)
    have hge := grownCap_ge w (0 + l.length) 0 e
    have hcm := grownCap_le_maxLen w (0 + l.length) 0 e (by unfold maxLen; omega)
    rw [Nat.zero_add] at hr hge hcm
    refine ⟨_, _, _, _, hr, ⟨hl, .inr ⟨w.heap.size, _, _, rfl, by omega, heap_alloc_new w.drew _, hge, hcm, ?_, ?_⟩⟩, (Below.refl _ _).drew.alloc (Nat.le_refl _) _⟩
    · simp only [Array.size_append, List.size_toArray, size_zeroCells, hzs, hl, List.length_nil, Nat.zero_add, ← Nat.add_mul]
      congr 1
      omega
    · simp only [Array.toList_append, List.nil_append]
      rw [← hl]
      exact List.take_left
theorem gives_append {o : Oper} {ρ : Operand → Value} {w w' : World} {K : Value → World → Prop} (s x : Operand) (t : TypeId) (ho : o.op = .call { callee := .builtin .append, args := #[s, x], argTypes := #[t, t] })
    (u v v' : Value) (hs : ρ s = v) (hx : ρ x = u) (hr : (Builtin.append_ #[t, t] o.type #[v, u]).run P w = .ok v' w') (hK : K v' w') : gives P K ((execOp ρ o).run P w) := by
  unfold execOp
  simp only [ho, resolve, invoke, builtin, Sem.run_bind, Sem.run_pure, Result.andThen_ok, List.map_toArray, List.map_cons, List.map_nil, hs, hx, hr]
  exact hK
/-- A slice over a whole block, from block B on. -/
def Fact.slF (B n : Nat) (t : TypeId) (cs : Array Value) : Fact := ⟨fun v w => ∃ g, v = .slice (some ⟨g, 0, none⟩) n n ∧ Box w g t cs ∧ B ≤ g, fun _ _ _ ⟨g, h, hb, hB⟩ h' => ⟨g, h, hb.kept h', hB⟩, false, fun _ _ h => by cases h⟩
end

end Go.Proofs.Ytojbdmdjepgpjaa

namespace Go.Proofs.Ytojbdmdjepgpjaa
open Go.RowKit

section
variable {w w2 : World} {n0 e sz k : Nat} {v : Value} {xs : List Value}
/-- A cell of a slice that owns its cells is put anew. -/
theorem own_put {b off i m cap : Nat} {u : Value} (h : w.ownsRow n0 e sz (.slice (some ⟨b, off, none⟩) m cap) k xs) :
    off = 0 ∧ m = k ∧ (w.setCell ⟨b, i, none⟩ u).ownsRow n0 e sz (.slice (some ⟨b, off, none⟩) m cap) k (xs.set i u) := by
  rcases h.2 with ⟨h0, _⟩ | ⟨g, cap', cur, h0, hbg, hg, hnc, hcm, hcs, htk⟩
  · cases h0
  · cases h0
    refine ⟨rfl, rfl, by rw [List.length_set]; exact h.1, .inr ⟨b, cap, cur.setIfInBounds i u, rfl, hbg, ?_, hnc, hcm, by simpa using hcs, ?_⟩⟩
    · simp [World.setCell, Array.getElem?_modify, hg]
    · rw [Array.toList_setIfInBounds, List.take_set, htk]
theorem flat_set {α : Type} {cells : α → List Value} {sz : Nat} (hsz : ∀ x, (cells x).length = sz) : ∀ (l : List α) (i j : Nat) (x y : α) (u : Value), l[i]? = some x → j < sz → cells y = (cells x).set j u → (l.flatMap cells).set (i * sz + j) u = (l.set i y).flatMap cells
  | [], i, j, x, y, u, h, _, _ => by simp at h
  | a :: l, 0, j, x, y, u, h, hj, hy => by
    have : a = x := by simpa using h
    subst this
    rw [List.flatMap_cons, Nat.zero_mul, Nat.zero_add, List.set_append_left _ _ (by rw [hsz]; exact hj), List.set_cons_zero, List.flatMap_cons, hy]
  | a :: l, i + 1, j, x, y, u, h, hj, hy => by
    have ih := flat_set hsz l i j x y u (by simpa using h) hj hy
    have e : (i + 1) * sz + j = sz + (i * sz + j) := by rw [Nat.succ_mul]; omega
    rw [List.flatMap_cons, e, List.set_append_right _ _ (by rw [hsz]; omega), hsz, Nat.add_sub_cancel_left, ih, List.set_cons_succ, List.flatMap_cons]
theorem own_free {b off m cap : Nat} {p : Nat} (h : w.ownsRow n0 e sz (.slice (some ⟨b, off, none⟩) m cap) k xs) : w.frozen? ⟨b, p, none⟩ = false := by
  rcases h.2 with ⟨h0, _⟩ | ⟨g, cap', cur, h0, hbg, hg, hnc, hcm, hcs, htk⟩
  · cases h0
  · cases h0
    simp [World.frozen?, hg]
end

/-- A land in memory of its own: slices of the element types e1 (stations), e2 (ridges), e3 (cases), e5 (clouds), e4 (suns). -/
structure Cop (e1 e2 e3 e4 e5 n0 : Nat) (L : Ld) (w : World) (u1 u2 u3 u4 : Value) (c : List (Value × List Cl)) : Prop where
  o1 : w.ownsRow n0 e1 4 u1 L.st.length (L.st.flatMap St.cells)
  o2 : w.ownsRow n0 e2 6 u2 L.rg.length (L.rg.flatMap Wl.cells)
  o3 : w.ownsRow n0 e3 1 u3 L.cs.length (c.map (·.1))
  o4 : w.ownsRow n0 e4 3 u4 L.sn.length (L.sn.flatMap Sn.cells)
  ec : c.map (·.2) = L.cs
  each : ∀ x ∈ c, w.ownsRow n0 e5 8 x.1 x.2.length (x.2.flatMap Cl.cells)
  apart : c.Pairwise fun x y => x.1.ownBlock = none ∨ x.1.ownBlock ≠ y.1.ownBlock
section
variable {e1 e2 e3 e4 e5 n0 : Nat} {L : Ld} {w w2 : World} {u1 u2 u3 u4 : Value} {c : List (Value × List Cl)}
theorem Cop.kept (h : Cop e1 e2 e3 e4 e5 n0 L w u1 u2 u3 u4 c) (hb : Below w.heap.size w w2) : Cop e1 e2 e3 e4 e5 n0 L w2 u1 u2 u3 u4 c :=
  ⟨own_below h.o1 hb, own_below h.o2 hb, own_below h.o3 hb, own_below h.o4 hb, h.ec, fun x hx => own_below (h.each x hx) hb, h.apart⟩
theorem Cop.land (h : Cop e1 e2 e3 e4 e5 n0 L w u1 u2 u3 u4 c) (h1 : L.st.length ≤ 1000) (h2 : L.rg.length ≤ 1000) (h3 : L.cs.length ≤ 1000) (h4 : L.sn.length ≤ 1000) (h5 : ∀ x ∈ L.cs, x.length ≤ 1000) : LandAt w u1 u2 u3 u4 L c := by
  have hcl : c.length = L.cs.length := by rw [← h.ec]; simp
  refine ⟨RowsAt.of_ownM (fun _ => rfl) h.o1 rfl h1, RowsAt.of_ownM (fun _ => rfl) h.o2 rfl h2, RowsAt.of_ownM (l := c) (cells := fun x => [x.1]) (fun _ => rfl) (by rw [flat_one]; exact h.o3) hcl.symm (by omega), h.ec, fun x hx => RowsAt.of_ownM (fun _ => rfl) (h.each x hx) rfl (h5 _ (by rw [← h.ec]; exact List.mem_map.2 ⟨x, hx, rfl⟩)), RowsAt.of_ownM (fun _ => rfl) h.o4 rfl h4⟩
/-- The station i of a land in memory of its own is put anew in one of its fields. -/
theorem Cop.putSt {b off m cap i j : Nat} {s s' : St} {u : Value} (h : Cop e1 e2 e3 e4 e5 n0 L w (.slice (some ⟨b, off, none⟩) m cap) u2 u3 u4 c) (hs : L.st[i]? = some s) (hj : j < 4) (hu : s'.cells = s.cells.set j u)
    (d2 : e2 ≠ e1) (d3 : e3 ≠ e1) (d4 : e4 ≠ e1) (d5 : e5 ≠ e1) :
    off = 0 ∧ Cop e1 e2 e3 e4 e5 n0 { L with st := L.st.set i s' } (w.setCell ⟨b, i * 4 + j, none⟩ u) (.slice (some ⟨b, off, none⟩) m cap) u2 u3 u4 c := by
  obtain ⟨h0, hm, ho⟩ := own_put (i := i * 4 + j) (u := u) h.o1
  have hg := grownBy_set w b (i * 4 + j) u
  have hg' : w.grownBy (w.setCell ⟨b, i * 4 + j, none⟩ u) (Value.ownBlock (.slice (some ⟨b, off, none⟩) m cap)) := hg
  refine ⟨h0, ?_, own_other h.o2 h.o1 d2 hg', own_other h.o3 h.o1 d3 hg', own_other h.o4 h.o1 d4 hg', h.ec, fun x hx => own_other (h.each x hx) h.o1 d5 hg', h.apart⟩
  rw [flat_set (cells := St.cells) (sz := 4) (fun _ => rfl) L.st i j s s' u hs hj hu] at ho
  simpa using ho
end

end Go.Proofs.Ytojbdmdjepgpjaa
