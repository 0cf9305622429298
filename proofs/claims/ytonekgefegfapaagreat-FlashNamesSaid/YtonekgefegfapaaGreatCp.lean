/-
  PLAIN: slices of the caller's own, read as lists; a slice that is appended to, and cells of it that are put anew. No function of the program is named.
-/
import Derived.Test.YtonekgefegfapaaGreatRf
import Derived.Maps.AppendAt
import Derived.Lib.AppendZerosOnto
import Derived.Lib.SliceRun
import Derived.OwnWalk
import Derived.Lib.Hide
namespace Go.Proofs.YtonekgefegfapaaGreat
open Go.RowKit

theorem grown_of_below {W W' : World} (h : Below W.heap.size W W') : W.grownBy W' none := ⟨h.os, h.tape, h.output, h.size, fun i hi _ => h.block i hi⟩

theorem RowsAt.cellAt {α : Type} {w : World} {b off n cap sz : Nat} {cells : α → List Value} {l : List α} (h : RowsAt w (.slice (some ⟨b, off, none⟩) n cap) sz cells l) {i : Nat} {x : α} (hx : l[i]? = some x) {j : Nat} {u : Value} (hu : (cells x)[j]? = some u) :
    w.cell? ⟨b, off + i * sz + j, none⟩ = some u := by
  obtain ⟨b', off', e, _, hc⟩ := h.at rfl hx
  simp only [Option.some.injEq, Addr.mk.injEq, and_true] at e
  obtain ⟨rfl, rfl⟩ := e
  exact hc j u hu

theorem flat_at {α : Type} {cells : α → List Value} {sz : Nat} (hsz : ∀ x, (cells x).length = sz) : ∀ (l : List α) (i : Nat) (x : α), l[i]? = some x → ∀ (j : Nat) (u : Value), (cells x)[j]? = some u → (l.flatMap cells)[i * sz + j]? = some u
  | [], i, x, h, _, _, _ => by simp at h
  | a :: l, 0, x, h, j, u, hu => by
    have : a = x := by simpa using h
    subst this
    have hj : j < (cells a).length := (List.getElem?_eq_some_iff.1 hu).1
    rw [List.flatMap_cons, List.getElem?_append_left (by omega), Nat.zero_mul, Nat.zero_add]
    exact hu
  | a :: l, i + 1, x, h, j, u, hu => by
    have ih := flat_at hsz l i x (by simpa using h) j u hu
    have e : (i + 1) * sz + j = sz + (i * sz + j) := by rw [Nat.succ_mul]; omega
    rw [List.flatMap_cons, e, List.getElem?_append_right (by rw [hsz]; omega), hsz, Nat.add_sub_cancel_left]
    exact ih

theorem RowsAt.of_ownM {α : Type} {w : World} {base e sz n : Nat} {v : Value} {cells : α → List Value} {l : List α} (hsz : ∀ x, (cells x).length = sz) (h : w.ownsRow base e sz v n (l.flatMap cells)) (hn : n = l.length) (h1 : l.length ≤ 1000) : RowsAt w v sz cells l := by
  subst hn
  refine ⟨h1, ?_⟩
  rcases h.2 with ⟨rfl, h0⟩ | ⟨g, cap, cur, rfl, _, hg, hnc, hcm, hsz2, htk⟩
  · have : l = [] := List.eq_nil_of_length_eq_zero h0
    subst this
    exact ⟨none, 0, rfl, by simp, by omega, fun h => absurd rfl h⟩
  · refine ⟨_, cap, rfl, hnc, by unfold maxLen at hcm; omega, fun _ => ⟨g, 0, rfl, (Array.getElem?_eq_some_iff.1 hg).1, fun i x hx j u hu => ?_⟩⟩
    have hf := flat_at hsz l i x hx j u hu
    have hi := (List.getElem?_eq_some_iff.1 hx).1
    have hj : j < sz := by rw [← hsz x]; exact (List.getElem?_eq_some_iff.1 hu).1
    have hlt : i * sz + j < l.length * sz := by
      have h2 : (i + 1) * sz ≤ l.length * sz := Nat.mul_le_mul_right _ hi
      rw [Nat.succ_mul] at h2
      omega
    rw [← htk, List.getElem?_take, if_pos hlt] at hf
    rw [cell_of_row w g (0 + i * sz + j) cur e (0, 0) hg, Nat.zero_add]
    simpa using hf

theorem box_newsM {w : World} {g t : Nat} {cs : List Value} (h : Box w g t cs.toArray) : ∀ (j : Nat) (u : Value), cs[j]? = some u → w.cell? ((⟨g, 0, none⟩ : Addr).add j) = some u := by
  intro j u hu
  have e : (⟨g, 0, none⟩ : Addr).add j = ⟨g, j, none⟩ := by
    unfold Addr.add
    by_cases h : j = 0 <;> simp [h]
  rw [e, h.cell j]
  simpa using hu

theorem own_below {w w' : World} {base e size n : Nat} {v : Value} {xs : List Value} (h : w.ownsRow base e size v n xs) (hb : Below w.heap.size w w') : w'.ownsRow base e size v n xs := by
  refine h.kept (grown_of_below hb) ?_
  cases hv : v.ownBlock with
  | none => exact .inl rfl
  | some g => exact .inr (by simp)

theorem take_flat {α : Type} {f : α → List Value} {l : List α} {k : Nat} {x : α} (hx : l[k]? = some x) : (l.take (k + 1)).flatMap f = (l.take k).flatMap f ++ f x := by
  rw [List.take_add_one, hx]
  simp

theorem grownBy_set (W : World) (b i : Nat) (v : Value) : W.grownBy (W.setCell ⟨b, i, none⟩ v) (some b) :=
  ⟨rfl, rfl, rfl, by simp [World.setCell], fun k _ hk => Below.heap_setCell _ ⟨b, i, none⟩ _ k (fun e => hk (by rw [e]))⟩

theorem own_mono {w : World} {n0 n1 e sz n : Nat} {v : Value} {xs : List Value} (h : w.ownsRow n1 e sz v n xs) (hn : n0 ≤ n1) : w.ownsRow n0 e sz v n xs :=
  ⟨h.1, h.2.elim .inl fun ⟨g, cap, cur, h1, h2, h3⟩ => .inr ⟨g, cap, cur, h1, Nat.le_trans hn h2, h3⟩⟩

theorem own_form {w : World} {n0 e sz n : Nat} {v : Value} {xs : List Value} (h : w.ownsRow n0 e sz v n xs) : ∃ A m p, v = .slice A m p := by
  rcases h.2 with ⟨rfl, _⟩ | ⟨g, cap, cur, rfl, _⟩
  · exact ⟨_, _, _, rfl⟩
  · exact ⟨_, _, _, rfl⟩

/-- A slice that owns its cells. -/
def Fact.own (n0 e sz n : Nat) (xs : List Value) : Fact := ⟨fun v w => ∃ A m p, v = .slice A m p ∧ w.ownsRow n0 e sz v n xs, fun _ _ _ ⟨A, m, p, h, h1⟩ hb => ⟨A, m, p, h, own_below h1 hb⟩, false, fun _ _ h => by cases h⟩

theorem own_cell {w : World} {n0 e sz n p b m cap : Nat} {xs : List Value} {u : Value} (h : w.ownsRow n0 e sz (.slice (some ⟨b, 0, none⟩) m cap) n xs) (hu : xs[p]? = some u) : w.cell? ⟨b, p, none⟩ = some u := by
  rcases h.2 with ⟨h0, _⟩ | ⟨g, cap', cur, h0, hbg, hg, hnc, hcm, hcs, htk⟩
  · cases h0
  · cases h0
    rw [cell_of_row w b p cur e (0, 0) hg]
    rw [← htk, List.getElem?_take] at hu
    split at hu
    · simpa using hu
    · cases hu

section
variable {w w2 : World} {n e sz k n' e' sz' k' : Nat} {v v' : Value} {xs xs' : List Value}
theorem own_ne (h : w.ownsRow n e sz v k xs) (h' : w.ownsRow n' e' sz' v' k' xs') (hee : e ≠ e') : v.ownBlock = none ∨ v.ownBlock ≠ v'.ownBlock := by
  rcases h.2 with ⟨rfl, _⟩ | ⟨g, cap, cur, rfl, _, hgb, _⟩
  · exact .inl rfl
  · refine .inr fun e1 => ?_
    rcases h'.2 with ⟨rfl, _⟩ | ⟨g', cap', cur', rfl, _, hgb', _⟩
    · simp [Value.ownBlock] at e1
    · obtain rfl : g = g' := by simpa [Value.ownBlock] using e1
      rw [hgb] at hgb'
      injection hgb' with h1
      injection h1 with _ h2
      exact hee h2
theorem own_other (h : w.ownsRow n e sz v k xs) (h' : w.ownsRow n' e' sz' v' k' xs') (hee : e ≠ e') (hg : w.grownBy w2 v'.ownBlock) : w2.ownsRow n e sz v k xs := h.kept hg (own_ne h h' hee)
theorem box_not_own {B t : Nat} {cs : Array Value} (hb : Box w B t cs) (hte : t ≠ e) (h : w.ownsRow n e sz v k xs) : some B ≠ v.ownBlock := by
  rcases h.2 with ⟨rfl, _⟩ | ⟨g, cap, cur, rfl, _, hgb, _⟩
  · simp [Value.ownBlock]
  · intro e1
    obtain rfl : B = g := by simpa [Value.ownBlock] using e1
    unfold Box at hb
    rw [hb] at hgb
    injection hgb with h1
    injection h1 with _ h2
    exact hte h2
theorem own_set {B t i : Nat} {cs : Array Value} {u : Value} (h : w.ownsRow n e sz v k xs) (hb : Box w B t cs) (hte : t ≠ e) : (w.setCell ⟨B, i, none⟩ u).ownsRow n e sz v k xs := h.kept (grownBy_set w B i u) (.inr fun e1 => box_not_own hb hte h e1.symm)
end

section
variable {P : Program}
theorem append_nil_run (w : World) (base : Nat) (t ty e : TypeId) (i : TypeInfo) (size : Nat) (ht : P.underlying t = some (.slice e)) (hi : P.info? e = some i)
    (v : Value) (n : Nat) (xs : List Value) (hown : w.ownsRow base e size v n xs) (c : Nat) :
    (Builtin.append_ #[t, t] ty #[v, .slice none 0 c]).run P w = (Builtin.append_ #[t, t] ty #[v, .slice (some ⟨0, 0, none⟩) 0 c]).run P w := by
  rcases hown.2 with ⟨rfl, rfl⟩ | ⟨g, cap, cur, rfl, hbg, hg, hnc, hcm, hcs, htake⟩
  · simp [Builtin.append_, run_underlying ht, sizeOf, typeInfo, hi, Builtin.lenOf, Builtin.firstCells, loadCells, loadCellsFrom]
  · simp [Builtin.append_, run_underlying ht, sizeOf, typeInfo, hi, Builtin.lenOf, Builtin.firstCells, loadCells, loadCellsFrom, hnc]
theorem flat_get {α : Type} {cells : α → List Value} {sz : Nat} (hsz : ∀ x, (cells x).length = sz) (h0 : 0 < sz) : ∀ (l : List α) (j : Nat) (u : Value), (l.flatMap cells)[j]? = some u → ∃ x, l[j / sz]? = some x ∧ (cells x)[j % sz]? = some u
  | [], j, u, h => by simp at h
  | a :: l, j, u, h => by
    rw [List.flatMap_cons] at h
    by_cases hj : j < sz
    · rw [List.getElem?_append_left (by rw [hsz]; exact hj)] at h
      exact ⟨a, by rw [Nat.div_eq_of_lt hj]; rfl, by rw [Nat.mod_eq_of_lt hj]; exact h⟩
    · rw [List.getElem?_append_right (by rw [hsz]; omega), hsz] at h
      obtain ⟨x, hx, hu⟩ := flat_get hsz h0 l (j - sz) u h
      have e1 : j / sz = (j - sz) / sz + 1 := by
        have := Nat.div_eq_sub_div h0 (by omega : sz ≤ j)
        exact this
      have e2 : j % sz = (j - sz) % sz := Nat.mod_eq_sub_mod (by omega)
      exact ⟨x, by rw [e1]; simpa using hx, by rw [e2]; exact hu⟩
theorem flat_len {α : Type} {cells : α → List Value} {sz : Nat} (hsz : ∀ x, (cells x).length = sz) (l : List α) : (l.flatMap cells).length = l.length * sz := by
  induction l with
  | nil => simp
  | cons a l ih => rw [List.flatMap_cons, List.length_append, hsz, ih, List.length_cons, Nat.succ_mul]; omega
/-- At the operation: 'append' of all that a slice reads as. -/
theorem wpList_append_rows {ops : Array Oper} {rest : List Oper} {o : Oper} {a : Act} {Q : Exit → Act → World → Prop} {w : World} (hgd : o.guard = none) (s x : Operand) (t : TypeId)
    (ho : o.op = .call { callee := .builtin .append, args := #[s, x], argTypes := #[t, t] })
    (base : Nat) (e : TypeId) (i : TypeInfo) (z : Value) (size bytes : Nat) (ht : P.underlying t = some (.slice e)) (hi : P.info? e = some i) (hz : i.zero = some z)
    (hsize : i.size = size) (hby : i.bytes = bytes) (hzs : z.cells.size = size) (hsz : 0 < size)
    (v : Value) (n : Nat) (xs : List Value) (hs : a.eval s = v) (hown : w.ownsRow base e size v n xs)
    {α : Type} (cells : α → List Value) (l : List α) (u : Value) (hx : a.eval x = u) (hR : RowsAt w u size cells l) (hc : ∀ x, (cells x).length = size) (h1 : ∀ x, ∀ y ∈ cells x, y.oneCell' = true)
    (h63 : n + l.length ≤ maxLen) (hbytes : (n + l.length) * bytes ≤ 140737488355328) (hbase : base ≤ w.heap.size)
    (h : ∀ v' w', w'.ownsRow base e size v' (n + l.length) (xs ++ l.flatMap cells) → w.grownBy w' v.ownBlock → (v'.ownBlock = v.ownBlock ∨ v'.ownBlock = some w.heap.size) → wpList P ops Q rest (a.put o.dst v') w') :
    wpList P ops Q (o :: rest) a w := by
  refine wpList_plain hgd fun K hK => ?_
  obtain ⟨_, A, cap, rfl, _, _, hcell⟩ := hR
  have key : ∃ v' w', (Builtin.append_ #[t, t] o.type #[v, .slice A l.length cap]).run P w = .ok v' w' ∧ w'.ownsRow base e size v' (n + l.length) (xs ++ l.flatMap cells) ∧ w.grownBy w' v.ownBlock ∧ (v'.ownBlock = v.ownBlock ∨ v'.ownBlock = some w.heap.size) := by
    have hl := flat_len hc l
    have ho1 : ∀ y ∈ l.flatMap cells, y.oneCell' = true := fun y hy => by
      obtain ⟨x, _, hy⟩ := List.mem_flatMap.1 hy
      exact h1 x y hy
    by_cases hne : l = []
    · subst hne
      have r0 := run_append_own_at (P := P) w base t o.type e i z size bytes ht hi hz hsize hby hzs hsz v n xs hown
      cases A with
      | none =>
        obtain ⟨v', w', hr, h2, h3, _, h5⟩ := r0 ⟨0, 0, none⟩ 0 cap [] (by simp) (by simp) (by simp) h63 hbytes hbase
        refine ⟨v', w', ?_, h2, h3, h5⟩
        have hq := append_nil_run (P := P) w base t o.type e i size ht hi v n xs hown cap
        exact hq.trans hr
      | some ad =>
        obtain ⟨v', w', hr, h2, h3, _, h5⟩ := r0 ad 0 cap [] (by simp) (by simp) (by simp) h63 hbytes hbase
        exact ⟨v', w', hr, h2, h3, h5⟩
    · obtain ⟨b, off, rfl, _, hcl⟩ := hcell hne
      obtain ⟨v', w', hr, h2, h3, _, h5⟩ := run_append_own_at (P := P) w base t o.type e i z size bytes ht hi hz hsize hby hzs hsz v n xs hown ⟨b, off, none⟩ l.length cap (l.flatMap cells) hl (fun j y hy => by
        obtain ⟨x, hx, hu⟩ := flat_get hc hsz l j y hy
        have := hcl _ x hx _ y hu
        have e1 : (⟨b, off, none⟩ : Addr).add j = ⟨b, off + j, none⟩ := by
          unfold Addr.add
          by_cases h : j = 0 <;> simp [h]
        have e2 : off + j / size * size + j % size = off + j := by
          have := Nat.div_add_mod j size
          rw [Nat.mul_comm] at this
          omega
        rw [e1, ← e2]
        exact this) ho1 h63 hbytes hbase
      exact ⟨v', w', hr, h2, h3, h5⟩
  obtain ⟨v', w', hr, h2, h3, h5⟩ := key
  unfold Oper.wp execOp
  simp only [ho, resolve, invoke, builtin, Sem.run_bind, Sem.run_pure, Result.andThen_ok, List.map_toArray, List.map_cons, List.map_nil, hs, hx, hr]
  exact hK _ _ (h v' w' h2 h3 h5)
end

section
variable {P : Program}
/-- 'append' of all that a slice reads as, onto an empty slice of the call's own. -/
theorem run_append_fresh (w : World) (n0 : Nat) (t ty e : TypeId) (i : TypeInfo) (z : Value) (size bytes : Nat) (ht : P.underlying t = some (.slice e)) (hi : P.info? e = some i) (hz : i.zero = some z)
    (hsize : i.size = size) (hby : i.bytes = bytes) (hzs : z.cells.size = size) (hsz : 0 < size) (g : Nat) (hg : Box w g e #[]) (hn0 : n0 ≤ g)
    {α : Type} (cells : α → List Value) (l : List α) (u : Value) (hR : RowsAt w u size cells l) (hc : ∀ x, (cells x).length = size) (hbytes : l.length * bytes ≤ 140737488355328) :
    ∃ A m p w', (Builtin.append_ #[t, t] ty #[.slice (some ⟨g, 0, none⟩) 0 0, u]).run P w = .ok (.slice A m p) w' ∧ w'.ownsRow n0 e size (.slice A m p) l.length (l.flatMap cells) ∧ Below w.heap.size w w' := by
  subst hsize
  subst hby
  obtain ⟨h1000, A, cap, rfl, _, _, hcell⟩ := hR
  have hlt := hg.lt
  by_cases hne : l = []
  · subst hne
    refine ⟨some ⟨g, 0, none⟩, 0, 0, w, ?_, ⟨by simp, .inr ⟨g, 0, #[], rfl, hn0, hg, by simp, by unfold maxLen; omega, by simp, by simp⟩⟩, Below.refl _ _⟩
    simp [Builtin.append_, run_underlying ht, sizeOf, typeInfo, hi, Builtin.lenOf, Builtin.firstCells]
    cases A <;> simp [loadCells, loadCellsFrom, storeCells]
  · have hpos : 0 < l.length := List.length_pos_iff.2 hne
    obtain ⟨b, off, rfl, _, hcl⟩ := hcell hne
    have hl := flat_len hc l
    have hnews : ∀ j v, (l.flatMap cells)[j]? = some v → w.cell? ((⟨b, off, none⟩ : Addr).add j) = some v := fun j y hy => by
      obtain ⟨x, hx, hu⟩ := flat_get hc hsz l j y hy
      have := hcl _ x hx _ y hu
      have e1 : (⟨b, off, none⟩ : Addr).add j = ⟨b, off + j, none⟩ := by
        unfold Addr.add
        by_cases h : j = 0 <;> simp [h]
      have e2 : off + j / i.size * i.size + j % i.size = off + j := by
        have := Nat.div_add_mod j i.size
        rw [Nat.mul_comm] at this
        omega
      rw [e1, ← e2]
      exact this
    have hr := run_append_grow (P := P) w t ty e i z ht hi hz ⟨g, 0, none⟩ 0 0 [] (by simp) (fun j v h => by simp at h) ⟨b, off, none⟩ l.length cap (l.flatMap cells) hl hnews (by omega) (by simp; omega) (by rw [Nat.zero_add]; exact growslice_fits hpos hbytes)
    have hge := grownCap_ge w (0 + l.length) 0 e
    have hcm := grownCap_le_maxLen w (0 + l.length) 0 e (by unfold maxLen; omega)
    rw [Nat.zero_add] at hr hge hcm
    refine ⟨_, _, _, _, hr, ⟨hl, .inr ⟨w.heap.size, _, _, rfl, by omega, heap_alloc_new w.drew _, hge, hcm, ?_, ?_⟩⟩, (Below.refl _ _).drew.alloc (Nat.le_refl _) _⟩
    · simp only [Array.size_append, List.size_toArray, size_zeroCells, hzs, hl, List.length_nil, Nat.zero_add, ← Nat.add_mul]
      congr 1
      omega
    · simp only [Array.toList_append, List.nil_append]
      rw [← hl]
      exact List.take_left
theorem gives_append {o : Oper} {ρ : Operand → Value} {w w' : World} {K : Value → World → Prop} (s x : Operand) (t : TypeId) (ho : o.op = .call { callee := .builtin .append, args := #[s, x], argTypes := #[t, t] })
    (u v v' : Value) (hs : ρ s = v) (hx : ρ x = u) (hr : (Builtin.append_ #[t, t] o.type #[v, u]).run P w = .ok v' w') (hK : K v' w') : gives P K ((execOp ρ o).run P w) := by
  unfold execOp
  simp only [ho, resolve, invoke, builtin, Sem.run_bind, Sem.run_pure, Result.andThen_ok, List.map_toArray, List.map_cons, List.map_nil, hs, hx, hr]
  exact hK
/-- A slice over a whole block, from block B on. -/
def Fact.slF (B n : Nat) (t : TypeId) (cs : Array Value) : Fact := ⟨fun v w => ∃ g, v = .slice (some ⟨g, 0, none⟩) n n ∧ Box w g t cs ∧ B ≤ g, fun _ _ _ ⟨g, h, hb, hB⟩ h' => ⟨g, h, hb.kept h', hB⟩, false, fun _ _ h => by cases h⟩
end

section
variable {w w2 : World} {n0 e sz k : Nat} {v : Value} {xs : List Value}
/-- A cell of a slice that owns its cells is put anew. -/
theorem own_put {b off i m cap : Nat} {u : Value} (h : w.ownsRow n0 e sz (.slice (some ⟨b, off, none⟩) m cap) k xs) :
    off = 0 ∧ m = k ∧ (w.setCell ⟨b, i, none⟩ u).ownsRow n0 e sz (.slice (some ⟨b, off, none⟩) m cap) k (xs.set i u) := by
  rcases h.2 with ⟨h0, _⟩ | ⟨g, cap', cur, h0, hbg, hg, hnc, hcm, hcs, htk⟩
  · cases h0
  · cases h0
    refine ⟨rfl, rfl, by rw [List.length_set]; exact h.1, .inr ⟨b, cap, cur.setIfInBounds i u, rfl, hbg, ?_, hnc, hcm, by simpa using hcs, ?_⟩⟩
    · simp [World.setCell, Array.getElem?_modify, hg]
    · rw [Array.toList_setIfInBounds, List.take_set, htk]
theorem flat_set {α : Type} {cells : α → List Value} {sz : Nat} (hsz : ∀ x, (cells x).length = sz) : ∀ (l : List α) (i j : Nat) (x y : α) (u : Value), l[i]? = some x → j < sz → cells y = (cells x).set j u → (l.flatMap cells).set (i * sz + j) u = (l.set i y).flatMap cells
  | [], i, j, x, y, u, h, _, _ => by simp at h
  | a :: l, 0, j, x, y, u, h, hj, hy => by
    have : a = x := by simpa using h
    subst this
    rw [List.flatMap_cons, Nat.zero_mul, Nat.zero_add, List.set_append_left _ _ (by rw [hsz]; exact hj), List.set_cons_zero, List.flatMap_cons, hy]
  | a :: l, i + 1, j, x, y, u, h, hj, hy => by
    have ih := flat_set hsz l i j x y u (by simpa using h) hj hy
    have e : (i + 1) * sz + j = sz + (i * sz + j) := by rw [Nat.succ_mul]; omega
    rw [List.flatMap_cons, e, List.set_append_right _ _ (by rw [hsz]; omega), hsz, Nat.add_sub_cancel_left, ih, List.set_cons_succ, List.flatMap_cons]
theorem own_free {b off m cap : Nat} {p : Nat} (h : w.ownsRow n0 e sz (.slice (some ⟨b, off, none⟩) m cap) k xs) : w.frozen? ⟨b, p, none⟩ = false := by
  rcases h.2 with ⟨h0, _⟩ | ⟨g, cap', cur, h0, hbg, hg, hnc, hcm, hcs, htk⟩
  · cases h0
  · cases h0
    simp [World.frozen?, hg]
end

end Go.Proofs.YtonekgefegfapaaGreat
