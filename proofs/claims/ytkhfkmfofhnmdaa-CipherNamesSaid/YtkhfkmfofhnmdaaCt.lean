/-
  The program's map of days: what a lookup finds, and what a new key leaves. Conditions: a key that is stored is new.
-/
import Derived.Test.YtkhfkmfofhnmdaaCs
import Derived.Test.YtkhfkmfofhnmdaaVn
namespace Go.Proofs.Ytkhfkmfofhnmdaa
open Go.RowKit

/-- Block r is a map with just the entries m, in the order in which they came. -/
def MapAt (w : World) (r : Nat) (m : List (Eve × Value)) : Prop :=
  ∃ es clock, w.heap[r]? = some (.map es clock) ∧ es.toList.map (fun e => (e.key, e.val)) = m.map fun x => (x.1.val, x.2)
def look (m : List (Eve × Value)) (k : Eve) : Option Value := (m.find? fun x => k.same x.1).map (·.2)

theorem eve_chk (e : Bool) (k : Eve) (w : World) : (Instr.checkKey e 10000 147 k.val).run Try.prog w = .ok () w := by unfold Eve.val Eve.cells; kernel_rfl
theorem run_findAsking (k : Eve) (w : World) : ∀ (es : List MapEntry) (m : List (Eve × Value)) (i : Nat), es.map (fun e => (e.key, e.val)) = m.map (fun x => (x.1.val, x.2)) →
    ∃ r, (Instr.findAsking 147 k.val es i).run Try.prog w = .ok r w ∧ r.map (·.2) = look m k
  | [], [], i, _ => ⟨none, by simp [Instr.findAsking], rfl⟩
  | e :: es, x :: m, i, h => by
    simp only [List.map_cons, List.cons.injEq, Prod.mk.injEq] at h
    obtain ⟨⟨hk, hv⟩, h⟩ := h
    unfold Instr.findAsking
    simp only [Sem.run_bind, hk, eq_eve, Result.andThen_ok]
    cases hq : k.same x.1 with
    | true => exact ⟨some (i, e.val), by simp, by simp [look, List.find?, hq, hv]⟩
    | false =>
      obtain ⟨r, hr, hr2⟩ := run_findAsking k w es m (i + 1) h
      exact ⟨r, by simpa using hr, by rw [hr2]; simp [look, List.find?, hq]⟩

theorem run_findKey (k : Eve) (w : World) (es : List MapEntry) (m : List (Eve × Value)) (h : es.map (fun e => (e.key, e.val)) = m.map (fun x => (x.1.val, x.2))) :
    ∃ r, (Instr.findKey 147 k.val es).run Try.prog w = .ok r w ∧ r.map (·.2) = look m k := by
  unfold Instr.findKey
  simp only [Sem.run_bind, run_underlying Try.underlying147, Result.andThen_ok]
  cases es with
  | nil =>
    cases m with
    | nil => exact ⟨none, by simp [Instr.findNow], rfl⟩
    | cons x m => simp at h
  | cons e es =>
    cases m with
    | nil => simp at h
    | cons x m =>
      have hk : e.key = x.1.val := by
        simp only [List.map_cons, List.cons.injEq, Prod.mk.injEq] at h
        exact h.1.1
      have : ∀ fs, Instr.findNow (.struct fs) k.val (e :: es) 0 = none := fun fs => by
        unfold Instr.findNow
        rw [hk]
        unfold Eve.val
        rfl
      rw [this]
      exact run_findAsking k w (e :: es) (x :: m) 0 h

theorem zero113 (w : World) : (zeroValue 113).run Try.prog w = .ok (.agg #[.slice none 0 0, iv 0]) w := by kernel_rfl
theorem und143 : Try.prog.underlying 143 = some (.map 147 113) := by kernel_rfl
theorem run_lookup {w : World} {r : Nat} {m : List (Eve × Value)} (h : MapAt w r m) (k : Eve) :
    (Instr.lookup 143 (.map (some r)) k.val true).run Try.prog w = .ok (.tuple #[(look m k).getD (.agg #[.slice none 0 0, iv 0]), .bool (look m k).isSome]) w := by
  obtain ⟨es, clock, hb, hm⟩ := h
  obtain ⟨x, hx, hx2⟩ := run_findKey k w es.toList m hm
  have hg : (getObj r).run Try.prog w = .ok (.map es clock) w := by simp [getObj, Sem.run, hb]
  unfold Instr.lookup
  simp only [Sem.run_bind, run_underlying und143, Result.andThen_ok, hg, Sem.run_pure, eve_chk, hx]
  rw [← hx2]
  cases x with
  | none => simp
  | some p => obtain ⟨i, v⟩ := p; simp

theorem run_update {w : World} {r : Nat} {m : List (Eve × Value)} (h : MapAt w r m) (k : Eve) (v : Value) (hn : look m k = none) :
    ∃ w', (Instr.mapUpdate 143 (.map (some r)) k.val v).run Try.prog w = .ok () w' ∧ MapAt w' r (m ++ [(k, v)]) ∧ w.grownBy w' (some r) := by
  obtain ⟨es, clock, hb, hm⟩ := h
  obtain ⟨x, hx, hx2⟩ := run_findKey k w es.toList m hm
  have hxn : x = none := by
    rw [hn] at hx2
    cases x with
    | none => rfl
    | some p => simp at hx2
  subst hxn
  have hlt : r < w.heap.size := (Array.getElem?_eq_some_iff.1 hb).1
  refine ⟨{ w with heap := w.heap.setIfInBounds r (.map (es.push { key := k.val, val := v, born := clock }) (clock + 1)) }, ?_, ?_, ?_⟩
  · have hg : (getObj r).run Try.prog w = .ok (.map es clock) w := by simp [getObj, Sem.run, hb]
    unfold Instr.mapUpdate
    simp only [Sem.run_bind, run_underlying und143, Result.andThen_ok, hg, eve_chk, hx]
    simp [setObj, Sem.run, hb]
  · refine ⟨es.push { key := k.val, val := v, born := clock }, clock + 1, by simp [hlt], ?_⟩
    simp [hm]
  · exact ⟨rfl, rfl, rfl, by simp, fun i hi hne => by
      have : r ≠ i := fun e => hne (by rw [e])
      simp [Array.getElem?_setIfInBounds_ne this]⟩
theorem MapAt.lt {w : World} {r : Nat} {m : List (Eve × Value)} (h : MapAt w r m) : r < w.heap.size := by
  obtain ⟨es, clock, h1, _⟩ := h
  exact (Array.getElem?_eq_some_iff.1 h1).1
theorem MapAt.kept {w w' : World} {r : Nat} {m : List (Eve × Value)} (h : MapAt w r m) (hb : Below w.heap.size w w') : MapAt w' r m := by
  have hlt := h.lt
  obtain ⟨es, clock, h1, h2⟩ := h
  exact ⟨es, clock, (hb.block r hlt).trans h1, h2⟩
theorem MapAt.new {w : World} {r : Nat} (h : r = w.heap.size) : MapAt (w.alloc (.map #[] 0)) r [] := by
  subst h
  exact ⟨#[], 0, heap_alloc_new w _, rfl⟩

theorem RowsAt.grown {α : Type} {w w' : World} {gm : Nat} {m : List (Eve × Value)} {v : Value} {sz : Nat} {cells : α → List Value} {l : List α} (h : RowsAt w v (sz + 1) cells l) (hc : ∀ x, (cells x).length = sz + 1) (hm : MapAt w gm m) (hg : w.grownBy w' (some gm)) : RowsAt w' v (sz + 1) cells l := by
  obtain ⟨h0, A, cap, h1, h2, h3, h4⟩ := h
  refine ⟨h0, A, cap, h1, h2, h3, fun hne => ?_⟩
  obtain ⟨b, off, e, hlt, hcl⟩ := h4 hne
  have hbm : some b ≠ some gm := by
    intro hb
    have hb : b = gm := Option.some.inj hb
    subst hb
    obtain ⟨x, hx⟩ : ∃ x, l[0]? = some x := ⟨_, List.getElem?_eq_getElem (List.length_pos_iff.2 hne)⟩
    obtain ⟨u, hu⟩ : ∃ u, (cells x)[0]? = some u := ⟨_, List.getElem?_eq_getElem (by rw [hc]; omega)⟩
    have := hcl 0 x hx 0 u hu
    obtain ⟨es, clock, hmm, _⟩ := hm
    simp [World.cell?, hmm] at this
  exact ⟨b, off, e, Nat.lt_of_lt_of_le hlt hg.size, fun i x hx j u hu => hg.cell (hcl i x hx j u hu) hbm⟩

end Go.Proofs.Ytkhfkmfofhnmdaa
