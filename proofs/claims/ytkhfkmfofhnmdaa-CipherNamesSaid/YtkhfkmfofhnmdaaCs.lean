/-
  The program's map, whose keys are days with the key of the day before, and the uses of all keys: what a lookup finds, and what a new key leaves. Conditions: a key that is stored is new.
-/
import Derived.Test.YtkhfkmfofhnmdaaCr
import Derived.Laws.StructEq
import Derived.ChangeKeysEq
namespace Go.Proofs.Ytkhfkmfofhnmdaa
open Go.RowKit

/-- A day, with the key of the day before, and the uses of all keys up to then. -/
structure Eve where
  day : Int
  last : Int
  a : Int
  b : Int
  c : Int
  d : Int
  e : Int
def Eve.cells (x : Eve) : Array Value := #[iv x.day, iv x.last, iv x.a, iv x.b, iv x.c, iv x.d, iv x.e]
def Eve.val (x : Eve) : Value := .agg x.cells
def Eve.same (x y : Eve) : Bool := x.day == y.day && (x.last == y.last && (x.a == y.a && (x.b == y.b && (x.c == y.c && (x.d == y.d && x.e == y.e)))))
theorem Eve.same_iff {x y : Eve} : x.same y = true ↔ x = y := by
  obtain ⟨a, b, c, d, e, f, g⟩ := x
  obtain ⟨a', b', c', d', e', f', g'⟩ := y
  simp [Eve.same]

theorem cells3 : Try.prog.cellsOf 3 = 1 := by kernel_rfl
theorem eq_int (d : Nat) (a b : Int) (w : World) : (Op.equalIn (d + 1) 3 (.int .i64 a) (.int .i64 b)).run Try.prog w = .ok (a == b) w := by
  simp [Op.equalIn, run_underlying Try.underlying3]

theorem eq_uses (d : Nat) (a b c d' e a' b' c' d2 e' : Int) (w : World) : (Op.equalIn (d + 1 + 1) 145 (.agg #[iv a, iv b, iv c, iv d', iv e]) (.agg #[iv a', iv b', iv c', iv d2, iv e'])).run Try.prog w =
    .ok (a == a' && (b == b' && (c == c' && (d' == d2 && e == e')))) w := by
  obtain ⟨i0, hi0, hz0, hz1, hz2⟩ := info_parts int_info
  rw [run_equalIn_array w (d + 1) _ _ Try.underlying145 hi0, cells3]
  have p0 : ∀ (x1 x2 x3 x4 x5 : Int) (w : World), (part 3 #[iv x1, iv x2, iv x3, iv x4, iv x5] (0 * 1)).run Try.prog w = .ok (iv x1) w := fun _ _ _ _ _ _ => by kernel_rfl
  have p1 : ∀ (x1 x2 x3 x4 x5 : Int) (w : World), (part 3 #[iv x1, iv x2, iv x3, iv x4, iv x5] (1 * 1)).run Try.prog w = .ok (iv x2) w := fun _ _ _ _ _ _ => by kernel_rfl
  have p2 : ∀ (x1 x2 x3 x4 x5 : Int) (w : World), (part 3 #[iv x1, iv x2, iv x3, iv x4, iv x5] (2 * 1)).run Try.prog w = .ok (iv x3) w := fun _ _ _ _ _ _ => by kernel_rfl
  have p3 : ∀ (x1 x2 x3 x4 x5 : Int) (w : World), (part 3 #[iv x1, iv x2, iv x3, iv x4, iv x5] (3 * 1)).run Try.prog w = .ok (iv x4) w := fun _ _ _ _ _ _ => by kernel_rfl
  have p4 : ∀ (x1 x2 x3 x4 x5 : Int) (w : World), (part 3 #[iv x1, iv x2, iv x3, iv x4, iv x5] (4 * 1)).run Try.prog w = .ok (iv x5) w := fun _ _ _ _ _ _ => by kernel_rfl
  rw [show List.range 5 = [0, 1, 2, 3, 4] from rfl]
  simp only [Op.eqItems, Sem.run_bind, p0, Result.andThen_ok, eq_int]
  cases h1 : (a == a')
  · simp [go_sem]
  · simp only [Bool.not_true, Bool.false_eq_true, if_false, Sem.run_bind, p1, Result.andThen_ok, eq_int]
    cases h2 : (b == b')
    · simp [go_sem]
    · simp only [Bool.not_true, Bool.false_eq_true, if_false, Sem.run_bind, p2, Result.andThen_ok, eq_int]
      cases h3 : (c == c')
      · simp [go_sem]
      · simp only [Bool.not_true, Bool.false_eq_true, if_false, Sem.run_bind, p3, Result.andThen_ok, eq_int]
        cases h4 : (d' == d2)
        · simp [go_sem]
        · simp only [Bool.not_true, Bool.false_eq_true, if_false, Sem.run_bind, p4, Result.andThen_ok, eq_int]
          cases h5 : (e == e') <;> simp [go_sem]

theorem eq_eve' (d : Nat) (x y : Eve) (w : World) : (Op.equalIn (d + 1 + 1 + 1) 147 x.val y.val).run Try.prog w = .ok (x.same y) w := by
  have hf : (Try.prog.fieldsOf 147).toList.map (fun f => (f.type, f.offset, f.name != "_")) = [(3, 0, true), (3, 1, true), (145, 2, true)] := by kernel_rfl
  unfold Eve.val
  rw [run_equalIn_struct w (d + 1 + 1) 147 _ _ (by kernel_rfl) (by kernel_rfl)]
  unfold Eve.cells
  have p0 : ∀ (x1 x2 x3 x4 x5 x6 x7 : Int) (w : World), (part 3 #[iv x1, iv x2, iv x3, iv x4, iv x5, iv x6, iv x7] 0).run Try.prog w = .ok (iv x1) w := fun _ _ _ _ _ _ _ _ => by kernel_rfl
  have p1 : ∀ (x1 x2 x3 x4 x5 x6 x7 : Int) (w : World), (part 3 #[iv x1, iv x2, iv x3, iv x4, iv x5, iv x6, iv x7] 1).run Try.prog w = .ok (iv x2) w := fun _ _ _ _ _ _ _ _ => by kernel_rfl
  have p2 : ∀ (x1 x2 x3 x4 x5 x6 x7 : Int) (w : World), (part 145 #[iv x1, iv x2, iv x3, iv x4, iv x5, iv x6, iv x7] 2).run Try.prog w = .ok (.agg #[iv x3, iv x4, iv x5, iv x6, iv x7]) w := fun _ _ _ _ _ _ _ _ => by kernel_rfl
  generalize (Try.prog.fieldsOf 147).toList = fs at *
  rcases fs with _ | ⟨f, _ | ⟨g, _ | ⟨h, _ | ⟨z, l⟩⟩⟩⟩
  · simp at hf
  · simp at hf
  · simp at hf
  · simp only [List.map_cons, List.map_nil, List.cons.injEq, Prod.mk.injEq, and_true] at hf
    obtain ⟨⟨f1, f2, f3⟩, ⟨g1, g2, g3⟩, h1, h2, h3⟩ := hf
    have f3' : f.name ≠ "_" := by simpa using f3
    have g3' : g.name ≠ "_" := by simpa using g3
    have h3' : h.name ≠ "_" := by simpa using h3
    unfold Eve.same
    simp only [Op.eqFields, if_pos f3', if_pos g3', if_pos h3', f1, f2, g1, g2, h1, h2, Sem.run_bind, p0, Result.andThen_ok, eq_int]
    cases q1 : (x.day == y.day)
    · simp [go_sem]
    · simp only [Bool.not_true, Bool.false_eq_true, if_false, Sem.run_bind, p1, Result.andThen_ok, eq_int]
      cases q2 : (x.last == y.last)
      · simp [go_sem]
      · simp only [Bool.not_true, Bool.false_eq_true, if_false, Sem.run_bind, p2, Result.andThen_ok, eq_uses]
        generalize (x.a == y.a && (x.b == y.b && (x.c == y.c && (x.d == y.d && x.e == y.e)))) = q
        cases q <;> simp [go_sem]
  · simp at hf
theorem eq_eve (x y : Eve) (w : World) : (Op.equal 147 x.val y.val).run Try.prog w = .ok (x.same y) w := eq_eve' 9997 x y w

end Go.Proofs.Ytkhfkmfofhnmdaa
