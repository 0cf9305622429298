/-
  The program's map of places, and the equality of places: what a lookup finds, and what a new key leaves. Conditions: a key that is stored is new.
-/
import Derived.Test.YtonekgefegfapaaGreatFe
import Derived.Laws.StructEq
namespace Go.Proofs.YtonekgefegfapaaGreat
open Go.RowKit

theorem eq_int (d : Nat) (a b : Int) (w : World) : (Op.equalIn (d + 1) 3 (.int .i64 a) (.int .i64 b)).run Tryz.prog w = .ok (a == b) w := by
  simp [Op.equalIn, run_underlying Tryz.underlying3]
theorem eq_pair' (d : Nat) (a b c d' : Int) (w : World) : (Op.equalIn (d + 1 + 1) 89 (.agg #[iv a, iv b]) (.agg #[iv c, iv d'])).run Tryz.prog w = .ok (a == c && b == d') w := by
  have hf : (Tryz.prog.fieldsOf 89).toList.map (fun f => (f.type, f.offset, f.name != "_")) = [(3, 0, true), (3, 1, true)] := by kernel_rfl
  rw [run_equalIn_struct w (d + 1) 89 #[iv a, iv b] #[iv c, iv d'] (by kernel_rfl) (by kernel_rfl)]
  have p0 : ∀ x y : Int, ∀ w : World, (part 3 #[iv x, iv y] 0).run Tryz.prog w = .ok (iv x) w := fun x y w => by kernel_rfl
  have p1 : ∀ x y : Int, ∀ w : World, (part 3 #[iv x, iv y] 1).run Tryz.prog w = .ok (iv y) w := fun x y w => by kernel_rfl
  generalize (Tryz.prog.fieldsOf 89).toList = fs at *
  rcases fs with _ | ⟨f, _ | ⟨g, _ | ⟨x, l⟩⟩⟩
  · simp at hf
  · simp at hf
  · simp only [List.map_cons, List.map_nil, List.cons.injEq, Prod.mk.injEq, and_true] at hf
    obtain ⟨⟨f1, f2, f3⟩, g1, g2, g3⟩ := hf
    have f3' : f.name ≠ "_" := by simpa using f3
    have g3' : g.name ≠ "_" := by simpa using g3
    simp only [Op.eqFields, if_pos f3', if_pos g3', f1, f2, g1, g2, Sem.run_bind, p0, Result.andThen_ok, eq_int]
    cases h1 : (a == c)
    · simp [go_sem]
    · simp only [Bool.not_true, Bool.false_eq_true, if_false, Sem.run_bind, p1, Result.andThen_ok, eq_int]
      cases h2 : (b == d') <;> simp [go_sem]
  · simp at hf

/-- Block r is a map with just the entries m, in the order in which they came. -/
def MapAt (w : World) (r : Nat) (m : List ((Int × Int) × Value)) : Prop :=
  ∃ es clock, w.heap[r]? = some (.map es clock) ∧ es.toList.map (fun e => (e.key, e.val)) = m.map fun x => (Value.agg #[iv x.1.1, iv x.1.2], x.2)

def look (m : List ((Int × Int) × Value)) (a b : Int) : Option Value := (m.find? fun x => x.1 == (a, b)).map (·.2)

section
variable {K : TypeId}
/-- Keys of type K are two numbers. -/
structure TwoKey (K : TypeId) : Prop where
  eq : ∀ a b c d w, (Op.equal K (.agg #[iv a, iv b]) (.agg #[iv c, iv d])).run Tryz.prog w = .ok (a == c && b == d) w
  chk : ∀ e a b w, (Instr.checkKey e 10000 K (.agg #[iv a, iv b])).run Tryz.prog w = .ok () w
  und : ∃ t, (∀ w, (underlying K).run Tryz.prog w = .ok t w) ∧ ∀ x y z u, Instr.sameNow t (.agg #[iv x, iv y]) (.agg #[iv z, iv u]) = none

theorem run_findAsking (hK : TwoKey K) (a b : Int) (w : World) : ∀ (es : List MapEntry) (m : List ((Int × Int) × Value)) (i : Nat), es.map (fun e => (e.key, e.val)) = m.map (fun x => (Value.agg #[iv x.1.1, iv x.1.2], x.2)) →
    ∃ r, (Instr.findAsking K (.agg #[iv a, iv b]) es i).run Tryz.prog w = .ok r w ∧ r.map (·.2) = look m a b
  | [], [], i, _ => ⟨none, by simp [Instr.findAsking], rfl⟩
  | e :: es, x :: m, i, h => by
    simp only [List.map_cons, List.cons.injEq, Prod.mk.injEq] at h
    obtain ⟨⟨hk, hv⟩, h⟩ := h
    unfold Instr.findAsking
    simp only [Sem.run_bind, hk, hK.eq, Result.andThen_ok]
    cases hq : (a == x.1.1 && b == x.1.2) with
    | true =>
      refine ⟨some (i, e.val), by simp, ?_⟩
      have : x.1 = (a, b) := by
        simp at hq
        exact Prod.ext hq.1.symm hq.2.symm
      simp [look, List.find?, this, hv]
    | false =>
      obtain ⟨r, hr, hr2⟩ := run_findAsking hK a b w es m (i + 1) h
      refine ⟨r, by simpa using hr, ?_⟩
      have : (x.1 == (a, b)) = false := by
        obtain ⟨⟨p, q⟩, v⟩ := x
        simp at hq ⊢
        intro e1 e2
        exact hq e1.symm e2.symm
      rw [hr2]
      simp [look, List.find?, this]

theorem run_findKey (hK : TwoKey K) (a b : Int) (w : World) (es : List MapEntry) (m : List ((Int × Int) × Value)) (h : es.map (fun e => (e.key, e.val)) = m.map (fun x => (Value.agg #[iv x.1.1, iv x.1.2], x.2))) :
    ∃ r, (Instr.findKey K (.agg #[iv a, iv b]) es).run Tryz.prog w = .ok r w ∧ r.map (·.2) = look m a b := by
  obtain ⟨t, ht, hs⟩ := hK.und
  unfold Instr.findKey
  simp only [Sem.run_bind, ht, Result.andThen_ok]
  cases es with
  | nil =>
    cases m with
    | nil => exact ⟨none, by simp [Instr.findNow], rfl⟩
    | cons x m => simp at h
  | cons e es =>
    cases m with
    | nil => simp at h
    | cons x m =>
      have hk : e.key = .agg #[iv x.1.1, iv x.1.2] := by
        simp only [List.map_cons, List.cons.injEq, Prod.mk.injEq] at h
        exact h.1.1
      have : Instr.findNow t (.agg #[iv a, iv b]) (e :: es) 0 = none := by
        unfold Instr.findNow
        rw [hk, hs]
      rw [this]
      exact run_findAsking hK a b w (e :: es) (x :: m) 0 h

theorem run_lookup {T E : TypeId} (hT : Tryz.prog.underlying T = some (.map K E)) (hK : TwoKey K) {z : Value} (hz : ∀ w, (zeroValue E).run Tryz.prog w = .ok z w) {w : World} {r : Nat} {m : List ((Int × Int) × Value)} (h : MapAt w r m) (a b : Int) (ok : Bool) :
    (Instr.lookup T (.map (some r)) (.agg #[iv a, iv b]) ok).run Tryz.prog w = .ok (if ok then .tuple #[(look m a b).getD z, .bool (look m a b).isSome] else (look m a b).getD z) w := by
  obtain ⟨es, clock, hb, hm⟩ := h
  obtain ⟨x, hx, hx2⟩ := run_findKey hK a b w es.toList m hm
  have hg : (getObj r).run Tryz.prog w = .ok (.map es clock) w := by simp [getObj, Sem.run, hb]
  unfold Instr.lookup
  simp only [Sem.run_bind, run_underlying hT, Result.andThen_ok, hg, Sem.run_pure, hK.chk, hx]
  rw [← hx2]
  cases x with
  | none => cases ok <;> simp [hz]
  | some p => obtain ⟨i, v⟩ := p; cases ok <;> simp

theorem run_update {T E : TypeId} (hT : Tryz.prog.underlying T = some (.map K E)) (hK : TwoKey K) {w : World} {r : Nat} {m : List ((Int × Int) × Value)} (h : MapAt w r m) (a b : Int) (v : Value) (hn : look m a b = none) :
    ∃ w', (Instr.mapUpdate T (.map (some r)) (.agg #[iv a, iv b]) v).run Tryz.prog w = .ok () w' ∧ MapAt w' r (m ++ [((a, b), v)]) ∧ w.grownBy w' (some r) := by
  obtain ⟨es, clock, hb, hm⟩ := h
  obtain ⟨x, hx, hx2⟩ := run_findKey hK a b w es.toList m hm
  have hxn : x = none := by
    rw [hn] at hx2
    cases x with
    | none => rfl
    | some p => simp at hx2
  subst hxn
  have hlt : r < w.heap.size := (Array.getElem?_eq_some_iff.1 hb).1
  refine ⟨{ w with heap := w.heap.setIfInBounds r (.map (es.push { key := .agg #[iv a, iv b], val := v, born := clock }) (clock + 1)) }, ?_, ?_, ?_⟩
  · have hg : (getObj r).run Tryz.prog w = .ok (.map es clock) w := by simp [getObj, Sem.run, hb]
    unfold Instr.mapUpdate
    simp only [Sem.run_bind, run_underlying hT, Result.andThen_ok, hg, hK.chk, hx]
    simp [setObj, Sem.run, hb]
  · refine ⟨es.push { key := .agg #[iv a, iv b], val := v, born := clock }, clock + 1, by simp [hlt], ?_⟩
    simp [hm]
  · exact ⟨rfl, rfl, rfl, by simp, fun i hi hne => by
      have : r ≠ i := fun e => hne (by rw [e])
      simp [Array.getElem?_setIfInBounds_ne this]⟩
end

theorem pair_key : TwoKey 89 :=
  ⟨fun a b c d w => eq_pair' 9998 a b c d w, fun _ _ _ _ => by kernel_rfl, ⟨_, run_underlying Tryz.underlying89, fun _ _ _ _ => rfl⟩⟩

theorem MapAt.below {w w' : World} {B r : Nat} {m : List ((Int × Int) × Value)} (h : MapAt w r m) (hb : Below B w w') (hr : r < B) : MapAt w' r m := by
  obtain ⟨es, clock, h1, h2⟩ := h
  exact ⟨es, clock, (hb.block r hr).trans h1, h2⟩
theorem MapAt.lt {w : World} {r : Nat} {m : List ((Int × Int) × Value)} (h : MapAt w r m) : r < w.heap.size := by
  obtain ⟨es, clock, h1, _⟩ := h
  exact (Array.getElem?_eq_some_iff.1 h1).1
theorem MapAt.kept {w w' : World} {r : Nat} {m : List ((Int × Int) × Value)} (h : MapAt w r m) (hb : Below w.heap.size w w') : MapAt w' r m := h.below hb h.lt
theorem MapAt.new {w : World} {r : Nat} (h : r = w.heap.size) : MapAt (w.alloc (.map #[] 0)) r [] := by
  subst h
  exact ⟨#[], 0, heap_alloc_new w _, rfl⟩

end Go.Proofs.YtonekgefegfapaaGreat
