/-
  PLAIN: the hill layer's geometry as plain Lean functions over integers; nothing of the program is imported here.
  PLAIN: a block of memory that is known whole ('Box'), and how it lasts; no function of the program is named.
  PLAIN: a slice that reads as a list of structs ('RowsAt'), and how it lasts; no function of the program is named.
  PLAIN, no function of the program is named: a region that draws its order, whose operations read, and whose callees make new memory alone: one walk of the text's order serves every order.
-/
import Derived.WalkKit
import Derived.OwnWalk
import Derived.Deep.Draws
import Derived.Laws.AppendOwn
import Derived.Laws.Rows
import Derived.Deep.QuietTactic
import Derived.BigQuiet
namespace Go.Proofs.YtonekgefegfapaaGreat
open Go.RowKit

structure St where
  x : Int
  y : Int
  z : Int
  m : Int
structure Wl where
  x1 : Int
  y1 : Int
  x2 : Int
  y2 : Int
  b : Int
  t : Int
structure Cl where
  w : Wl
  f : Int
  t : Int
structure Sn where
  e : Int
  n : Int
  u : Int
structure Ln where
  a : St
  b : St

abbrev iv (n : Int) : Value := .int .i64 n
def St.cells (s : St) : List Value := [iv s.x, iv s.y, iv s.z, iv s.m]
def Wl.cells (w : Wl) : List Value := [iv w.x1, iv w.y1, iv w.x2, iv w.y2, iv w.b, iv w.t]
def Cl.cells (c : Cl) : List Value := [iv c.w.x1, iv c.w.y1, iv c.w.x2, iv c.w.y2, iv c.w.b, iv c.w.t, iv c.f, iv c.t]
def Sn.cells (s : Sn) : List Value := [iv s.e, iv s.n, iv s.u]

/-- On which side of the straight line from (ax, ay) to (bx, by') the place (px, py) is. -/
def sideI (ax ay bx b_y px py : Int) : Int := (bx - ax) * (py - ay) - (b_y - ay) * (px - ax)
def sizeI (n : Int) : Int := if n < 0 then -n else n

/-- The wall from (x1, y1) to (x2, y2) crosses the line between the places (ax, ay) and (bx, b_y). -/
def crossB (ax ay bx b_y x1 y1 x2 y2 : Int) : Bool := decide (sideI x1 y1 x2 y2 ax ay * sideI x1 y1 x2 y2 bx b_y < 0) && decide (sideI ax ay bx b_y x1 y1 * sideI ax ay bx b_y x2 y2 ≤ 0)
/-- Where the wall crosses the line, its height is so many parts (overP), of which so many make 1 (overQ). -/
def overP (ax ay az bx b_y bz x1 y1 x2 y2 : Int) : Int := if crossB ax ay bx b_y x1 y1 x2 y2 then az * sizeI (sideI x1 y1 x2 y2 bx b_y) + bz * sizeI (sideI x1 y1 x2 y2 ax ay) else 0
def overQ (ax ay bx b_y x1 y1 x2 y2 : Int) : Int := if crossB ax ay bx b_y x1 y1 x2 y2 then sizeI (sideI x1 y1 x2 y2 ax ay) + sizeI (sideI x1 y1 x2 y2 bx b_y) else 0
/-- The wall blocks the line. -/
def blockI (ax ay az bx b_y bz x1 y1 x2 y2 b t : Int) : Bool :=
  crossB ax ay bx b_y x1 y1 x2 y2 && (decide (b * overQ ax ay bx b_y x1 y1 x2 y2 ≤ overP ax ay az bx b_y bz x1 y1 x2 y2) && decide (overP ax ay az bx b_y bz x1 y1 x2 y2 ≤ t * overQ ax ay bx b_y x1 y1 x2 y2))
theorem sizeI_bd (n : Int) (m : Nat) (h : -(m : Int) ≤ n ∧ n ≤ m) : 0 ≤ sizeI n ∧ sizeI n ≤ m := by unfold sizeI; split <;> omega
/-- n is from lo to hi. -/
def inB (lo hi n : Int) : Bool := decide (lo ≤ n) && decide (n ≤ hi)
theorem inB_iff {lo hi n : Int} : inB lo hi n = true ↔ lo ≤ n ∧ n ≤ hi := by simp [inB]
theorem inB_not {lo hi n : Int} : inB lo hi n = false ↔ ¬ (lo ≤ n ∧ n ≤ hi) := by simp [inB]
/-- The numbers that the parts of a land may have, h being its last hour. -/
def frameV (h : Int) : Value := .agg #[iv 0, iv 100, iv 0, iv 1000, iv 1, iv 2, iv (-100), iv 100, iv 0, iv h]
def stB (s : St) : Bool := inB 0 100 s.x && inB 0 100 s.y && inB 0 1000 s.z && inB 1 2 s.m
def wlB (w : Wl) : Bool := (inB 0 100 w.x1 && inB 0 100 w.y1 && inB 0 100 w.x2 && inB 0 100 w.y2) && !(w.x1 == w.x2 && w.y1 == w.y2) && inB 0 1000 w.b && inB 0 1000 w.t && decide (w.b ≤ w.t)
def rgB (w : Wl) : Bool := wlB w && w.b == 0
def clB (h : Int) (c : Cl) : Bool := wlB c.w && inB 0 h c.f && inB 0 h c.t && decide (c.f ≤ c.t)
def snB (s : Sn) : Bool := inB (-100) 100 s.e && inB (-100) 100 s.n && inB (-100) 100 s.u
theorem bcell {W w1 : World} (hb : Below W.heap.size W w1) : (∀ b o, b < W.heap.size → w1.cell? ⟨b, o, none⟩ = W.cell? ⟨b, o, none⟩) ∧ (∀ b o, b < W.heap.size → w1.frozen? ⟨b, o, none⟩ = W.frozen? ⟨b, o, none⟩) :=
  ⟨fun b o h => hb.cell (p := ⟨b, o, none⟩) h, fun b o h => hb.frozen (p := ⟨b, o, none⟩) h⟩
theorem mul_in (a b : Int) (m n : Nat) (h1 : -(m : Int) ≤ a) (h2 : a ≤ m) (h3 : -(n : Int) ≤ b) (h4 : b ≤ n) : -((m * n : Nat) : Int) ≤ a * b ∧ a * b ≤ ((m * n : Nat) : Int) := by
  have ha : a.natAbs ≤ m := by omega
  have hb : b.natAbs ≤ n := by omega
  have h := Nat.mul_le_mul ha hb
  rw [← Int.natAbs_mul] at h
  omega
theorem ret_int {k : IntKind} {a b : Int} (h : a = b) : Ending.returned (.int k a) = .returned (.int k b) := by rw [h]
theorem ret_bool {a b : Bool} (h : a = b) : Ending.returned (.bool a) = .returned (.bool b) := by rw [h]
theorem wrap_in (n : Int) (m : Nat) (hm : m ≤ 9000000000000000000) (h : -(m : Int) ≤ n ∧ n ≤ m) : wrap64 n = n := by unfold wrap64; omega
theorem wrapK_in (n : Int) (m : Nat) (hm : m ≤ 9000000000000000000) (h : -(m : Int) ≤ n ∧ n ≤ m) : IntKind.i64.wrap n = n := by rw [IntKind.wrap_i64]; omega
theorem side_bd (ax ay bx b_y px py : Int) (h1 : 0 ≤ ax ∧ ax ≤ 100) (h2 : 0 ≤ ay ∧ ay ≤ 100) (h3 : 0 ≤ bx ∧ bx ≤ 100) (h4 : 0 ≤ b_y ∧ b_y ≤ 100) (h5 : 0 ≤ px ∧ px ≤ 100) (h6 : 0 ≤ py ∧ py ≤ 100) :
    (-10000 ≤ (bx - ax) * (py - ay) ∧ (bx - ax) * (py - ay) ≤ 10000) ∧ (-10000 ≤ (b_y - ay) * (px - ax) ∧ (b_y - ay) * (px - ax) ≤ 10000) ∧ -20000 ≤ sideI ax ay bx b_y px py ∧ sideI ax ay bx b_y px py ≤ 20000 := by
  have a := mul_in (bx - ax) (py - ay) 100 100 (by omega) (by omega) (by omega) (by omega)
  have b := mul_in (b_y - ay) (px - ax) 100 100 (by omega) (by omega) (by omega) (by omega)
  unfold sideI
  omega
theorem side_wrap (ax ay bx b_y px py : Int) (h1 : 0 ≤ ax ∧ ax ≤ 100) (h2 : 0 ≤ ay ∧ ay ≤ 100) (h3 : 0 ≤ bx ∧ bx ≤ 100) (h4 : 0 ≤ b_y ∧ b_y ≤ 100) (h5 : 0 ≤ px ∧ px ≤ 100) (h6 : 0 ≤ py ∧ py ≤ 100) :
    wrap64 (wrap64 ((bx - ax) * (py - ay)) - wrap64 ((b_y - ay) * (px - ax))) = sideI ax ay bx b_y px py := by
  obtain ⟨a, b, c⟩ := side_bd ax ay bx b_y px py h1 h2 h3 h4 h5 h6
  rw [wrap_in _ 10000 (by omega) a, wrap_in _ 10000 (by omega) b]
  unfold sideI at c ⊢
  exact wrap_in _ 20000 (by omega) c

theorem over_bd (ax ay az bx b_y bz x1 y1 x2 y2 : Int) (h1 : 0 ≤ ax ∧ ax ≤ 100) (h2 : 0 ≤ ay ∧ ay ≤ 100) (h3 : 0 ≤ bx ∧ bx ≤ 100) (h4 : 0 ≤ b_y ∧ b_y ≤ 100) (h5 : 0 ≤ x1 ∧ x1 ≤ 100) (h6 : 0 ≤ y1 ∧ y1 ≤ 100) (h7 : 0 ≤ x2 ∧ x2 ≤ 100) (h8 : 0 ≤ y2 ∧ y2 ≤ 100) (h9 : 0 ≤ az ∧ az ≤ 1000) (h10 : 0 ≤ bz ∧ bz ≤ 1000) :
    (-40000000 ≤ overP ax ay az bx b_y bz x1 y1 x2 y2 ∧ overP ax ay az bx b_y bz x1 y1 x2 y2 ≤ 40000000) ∧ 0 ≤ overQ ax ay bx b_y x1 y1 x2 y2 ∧ overQ ax ay bx b_y x1 y1 x2 y2 ≤ 40000 := by
  have s1 := sizeI_bd _ 20000 (side_bd x1 y1 x2 y2 ax ay h5 h6 h7 h8 h1 h2).2.2
  have s2 := sizeI_bd _ 20000 (side_bd x1 y1 x2 y2 bx b_y h5 h6 h7 h8 h3 h4).2.2
  have m1 := mul_in az (sizeI (sideI x1 y1 x2 y2 bx b_y)) 1000 20000 (by omega) (by omega) (by omega) (by omega)
  have m2 := mul_in bz (sizeI (sideI x1 y1 x2 y2 ax ay)) 1000 20000 (by omega) (by omega) (by omega) (by omega)
  unfold overP overQ
  cases crossB ax ay bx b_y x1 y1 x2 y2
  · simp
  · simp only [if_true]
    omega

end Go.Proofs.YtonekgefegfapaaGreat

namespace Go.Proofs.YtonekgefegfapaaGreat
open Go.RowKit

/-- Block g of w is just the cells cs of type t; none is frozen. -/
def Box (w : World) (g : Nat) (t : TypeId) (cs : Array Value) : Prop := w.heap[g]? = some (.cells cs t (0, 0))

section
variable {w w' : World} {g : Nat} {t : TypeId} {cs : Array Value}
theorem Box.lt (h : Box w g t cs) : g < w.heap.size := by
  by_cases hlt : g < w.heap.size
  · exact hlt
  · have := Array.getElem?_eq_none (xs := w.heap) (i := g) (by omega)
    unfold Box at h
    rw [this] at h
    cases h
theorem Box.cell (h : Box w g t cs) (i : Nat) : w.cell? ⟨g, i, none⟩ = cs[i]? := cell_of_row w g i cs t (0, 0) h
theorem Box.free (h : Box w g t cs) (i : Nat) : w.frozen? ⟨g, i, none⟩ = false := by
  unfold Box at h
  simp [World.frozen?, h]
theorem Box.new (h : g = w.heap.size) : Box (w.alloc (.cells cs t)) g t cs := by subst h; exact heap_alloc_new w _
theorem Box.alloc (h : Box w g t cs) (o : Obj) : Box (w.alloc o) g t cs := (Below.heap_alloc w o g h.lt).trans h
theorem Box.drew (h : Box w g t cs) : Box w.drew g t cs := h
theorem Box.drewN (h : Box w g t cs) (n : Nat) : Box (w.drewN n) g t cs := h
theorem Box.below {B : Nat} (h : Box w g t cs) (hb : Below B w w') (hg : g < B) : Box w' g t cs := (hb.block g hg).trans h
theorem Box.kept (h : Box w g t cs) (hb : Below w.heap.size w w') : Box w' g t cs := h.below hb h.lt
theorem Box.grown {row : Option Nat} (h : Box w g t cs) (hb : w.grownBy w' row) (hg : some g ≠ row) : Box w' g t cs := (hb.block g h.lt hg).trans h
theorem Box.far (h : Box w g t cs) {p : Addr} (hp : g ≠ p.block) (u : Value) : Box (w.setCell p u) g t cs := (Below.heap_setCell w p u g hp).trans h
theorem Box.put (h : Box w g t cs) (i : Nat) (u : Value) : Box (w.setCell ⟨g, i, none⟩ u) g t (cs.setIfInBounds i u) := by
  unfold Box at h ⊢
  simp [World.setCell, Array.getElem?_modify, h]
theorem Box.put1 {a0 u0 : Value} (h : Box w g t #[a0]) : Box (w.setCell ⟨g, 0, none⟩ u0) g t #[u0] := by simpa using (h.put 0 u0)
theorem Box.put2 {a0 a1 u0 u1 : Value} (h : Box w g t #[a0, a1]) : Box ((w.setCell ⟨g, 0, none⟩ u0).setCell ⟨g, 1, none⟩ u1) g t #[u0, u1] := by simpa using ((h.put 0 u0).put 1 u1)
theorem Box.put3 {a0 a1 a2 u0 u1 u2 : Value} (h : Box w g t #[a0, a1, a2]) : Box (((w.setCell ⟨g, 0, none⟩ u0).setCell ⟨g, 1, none⟩ u1).setCell ⟨g, 2, none⟩ u2) g t #[u0, u1, u2] := by simpa using (((h.put 0 u0).put 1 u1).put 2 u2)
theorem Box.put4 {a0 a1 a2 a3 u0 u1 u2 u3 : Value} (h : Box w g t #[a0, a1, a2, a3]) : Box ((((w.setCell ⟨g, 0, none⟩ u0).setCell ⟨g, 1, none⟩ u1).setCell ⟨g, 2, none⟩ u2).setCell ⟨g, 3, none⟩ u3) g t #[u0, u1, u2, u3] := by simpa using ((((h.put 0 u0).put 1 u1).put 2 u2).put 3 u3)
theorem Box.put5 {a0 a1 a2 a3 a4 u0 u1 u2 u3 u4 : Value} (h : Box w g t #[a0, a1, a2, a3, a4]) : Box (((((w.setCell ⟨g, 0, none⟩ u0).setCell ⟨g, 1, none⟩ u1).setCell ⟨g, 2, none⟩ u2).setCell ⟨g, 3, none⟩ u3).setCell ⟨g, 4, none⟩ u4) g t #[u0, u1, u2, u3, u4] := by simpa using (((((h.put 0 u0).put 1 u1).put 2 u2).put 3 u3).put 4 u4)
theorem Box.put6 {a0 a1 a2 a3 a4 a5 u0 u1 u2 u3 u4 u5 : Value} (h : Box w g t #[a0, a1, a2, a3, a4, a5]) : Box ((((((w.setCell ⟨g, 0, none⟩ u0).setCell ⟨g, 1, none⟩ u1).setCell ⟨g, 2, none⟩ u2).setCell ⟨g, 3, none⟩ u3).setCell ⟨g, 4, none⟩ u4).setCell ⟨g, 5, none⟩ u5) g t #[u0, u1, u2, u3, u4, u5] := by simpa using ((((((h.put 0 u0).put 1 u1).put 2 u2).put 3 u3).put 4 u4).put 5 u5)
theorem Box.put7 {a0 a1 a2 a3 a4 a5 a6 u0 u1 u2 u3 u4 u5 u6 : Value} (h : Box w g t #[a0, a1, a2, a3, a4, a5, a6]) : Box (((((((w.setCell ⟨g, 0, none⟩ u0).setCell ⟨g, 1, none⟩ u1).setCell ⟨g, 2, none⟩ u2).setCell ⟨g, 3, none⟩ u3).setCell ⟨g, 4, none⟩ u4).setCell ⟨g, 5, none⟩ u5).setCell ⟨g, 6, none⟩ u6) g t #[u0, u1, u2, u3, u4, u5, u6] := by simpa using (((((((h.put 0 u0).put 1 u1).put 2 u2).put 3 u3).put 4 u4).put 5 u5).put 6 u6)
theorem Box.put8 {a0 a1 a2 a3 a4 a5 a6 a7 u0 u1 u2 u3 u4 u5 u6 u7 : Value} (h : Box w g t #[a0, a1, a2, a3, a4, a5, a6, a7]) : Box ((((((((w.setCell ⟨g, 0, none⟩ u0).setCell ⟨g, 1, none⟩ u1).setCell ⟨g, 2, none⟩ u2).setCell ⟨g, 3, none⟩ u3).setCell ⟨g, 4, none⟩ u4).setCell ⟨g, 5, none⟩ u5).setCell ⟨g, 6, none⟩ u6).setCell ⟨g, 7, none⟩ u7) g t #[u0, u1, u2, u3, u4, u5, u6, u7] := by simpa using ((((((((h.put 0 u0).put 1 u1).put 2 u2).put 3 u3).put 4 u4).put 5 u5).put 6 u6).put 7 u7)
theorem Box.later (hb : Below w.heap.size w w') (h : Box w g t cs) : Box w' g t cs := h.below hb h.lt
theorem Box.neq {p : Addr} {t' : TypeId} {cs' : Array Value} (h : Box w g t cs) (h' : Box w p.block t' cs') (hne : t ≠ t') : g ≠ p.block := by
  intro e
  subst e
  unfold Box at h h'
  rw [h] at h'
  injection h' with h'
  injection h' with _ ht
  exact hne ht
end

section
variable {w W W' : World}
theorem up0 : Below w.heap.size w w := Below.refl _ _
theorem up_alloc (h : Below w.heap.size w W) (o : Obj) : Below w.heap.size w (W.alloc o) := h.alloc h.size o
theorem up_later (h : Below w.heap.size w W) (hb : Below W.heap.size W W') : Below w.heap.size w W' := h.trans (hb.mono h.size)
theorem up_put (h : Below w.heap.size w W) {p : Addr} (hp : w.heap.size ≤ p.block) (u : Value) : Below w.heap.size w (W.setCell p u) := h.setCell hp u
theorem up_drew (h : Below w.heap.size w W) : Below w.heap.size w W.drew := h.drew
end

end Go.Proofs.YtonekgefegfapaaGreat

namespace Go.Proofs.YtonekgefegfapaaGreat
open Go.RowKit

/-- The slice v reads, in w, as the list l: each element lies in sz cells. -/
def RowsAt {α : Type} (w : World) (v : Value) (sz : Nat) (cells : α → List Value) (l : List α) : Prop :=
  l.length ≤ 1000 ∧ ∃ A cap, v = .slice A l.length cap ∧ l.length ≤ cap ∧ cap ≤ 9223372036854775807 ∧
    (l ≠ [] → ∃ b off, A = some ⟨b, off, none⟩ ∧ b < w.heap.size ∧ ∀ i x, l[i]? = some x → ∀ j u, (cells x)[j]? = some u → w.cell? ⟨b, off + i * sz + j, none⟩ = some u)

section
variable {α : Type} {w w' : World} {v : Value} {sz : Nat} {cells : α → List Value} {l : List α}
theorem RowsAt.kept (h : RowsAt w v sz cells l) (hb : Below w.heap.size w w') : RowsAt w' v sz cells l := by
  obtain ⟨h0, A, cap, h1, h2, h3, h4⟩ := h
  refine ⟨h0, A, cap, h1, h2, h3, fun hne => ?_⟩
  obtain ⟨b, off, e, hlt, hc⟩ := h4 hne
  exact ⟨b, off, e, Nat.lt_of_lt_of_le hlt hb.size, fun i x hx j u hu => (hb.cell (p := ⟨b, off + i * sz + j, none⟩) hlt).trans (hc i x hx j u hu)⟩
theorem RowsAt.nil (cells : α → List Value) : RowsAt w (.slice none 0 0) sz cells [] :=
  ⟨by simp, none, 0, rfl, by simp, by omega, fun h => absurd rfl h⟩
/-- What a walk over the list wants: the slice's value, or that it is empty. -/
theorem RowsAt.form (h : RowsAt w v sz cells l) : l.length ≤ 1000 ∧ ∃ A cap, v = .slice A l.length cap ∧ l.length ≤ cap ∧ cap ≤ 9223372036854775807 := by
  obtain ⟨h0, A, cap, h1, h2, h3, _⟩ := h
  exact ⟨h0, A, cap, h1, h2, h3⟩
theorem RowsAt.at (h : RowsAt w v sz cells l) {A : Option Addr} {n cap : Nat} (hv : v = .slice A n cap) {i : Nat} {x : α} (hx : l[i]? = some x) :
    ∃ b off, A = some ⟨b, off, none⟩ ∧ b < w.heap.size ∧ ∀ j u, (cells x)[j]? = some u → w.cell? ⟨b, off + i * sz + j, none⟩ = some u := by
  obtain ⟨_, A', cap', h1, _, _, h4⟩ := h
  have hne : l ≠ [] := fun e => by subst e; simp at hx
  obtain ⟨b, off, e, hlt, hc⟩ := h4 hne
  rw [hv] at h1
  injection h1 with hA
  subst hA
  exact ⟨b, off, e, hlt, fun j u hu => hc i x hx j u hu⟩
end

theorem all_take_succ {α : Type} {l : List α} {p : α → Bool} {k : Nat} {x : α} (hx : l[k]? = some x) (h : (l.take k).all p = true) (hp : p x = true) : (l.take (k + 1)).all p = true := by
  rw [List.take_add_one, hx]
  simp at h ⊢
  exact ⟨h, hp⟩
theorem all_false {α : Type} {l : List α} {p : α → Bool} {k : Nat} {x : α} (hx : l[k]? = some x) (hp : p x = false) : l.all p = false := by
  have hm := List.mem_of_getElem? hx
  cases h : l.all p with
  | false => rfl
  | true => rw [List.all_eq_true.1 h x hm] at hp; cases hp

structure Ld where
  st : List St
  rg : List Wl
  cs : List (List Cl)
  sn : List Sn

/-- The value reads, in w, as the land L; 'c' are its cases, each with the slice that holds it. -/
structure LandAt (w : World) (v1 v2 v3 v4 : Value) (L : Ld) (c : List (Value × List Cl)) : Prop where
  st : RowsAt w v1 4 St.cells L.st
  rg : RowsAt w v2 6 Wl.cells L.rg
  cs : RowsAt w v3 1 (fun x => [x.1]) c
  eq : c.map (·.2) = L.cs
  each : ∀ x ∈ c, RowsAt w x.1 8 Cl.cells x.2
  sn : RowsAt w v4 3 Sn.cells L.sn
theorem LandAt.kept {w w' : World} {v1 v2 v3 v4 : Value} {L : Ld} {c : List (Value × List Cl)} (h : LandAt w v1 v2 v3 v4 L c) (hb : Below w.heap.size w w') : LandAt w' v1 v2 v3 v4 L c :=
  ⟨h.st.kept hb, h.rg.kept hb, h.cs.kept hb, h.eq, fun x hx => (h.each x hx).kept hb, h.sn.kept hb⟩

def exB (L : Ld) : Bool := decide (6 < L.st.length) || decide (6 < L.rg.length) || decide (4 < L.cs.length) || decide (12 < L.sn.length) || L.cs.any fun x => decide (4 < x.length)
def apartB (l : List St) : Bool := decide ((l.map fun s => (s.x, s.y)).Nodup)
def validB (L : Ld) : Bool :=
  decide (0 < L.st.length) && decide (0 < L.cs.length) && decide (0 < L.sn.length) && L.st.all stB && apartB L.st && L.rg.all rgB && (L.cs.all fun x => x.all (clB ((L.sn.length : Int) - 1))) && L.sn.all snB

end Go.Proofs.YtonekgefegfapaaGreat

namespace Go.Proofs.YtonekgefegfapaaGreat
open Go.RowKit

/-- A world in which all that lay below block B of W lies as it lay. -/
structure Later (B : Nat) (W : World) where
  w : World
  hs : B ≤ W.heap.size
  h : Below B W w

theorem Later.cell {B : Nat} {W : World} (x : Later B W) (b : Nat) (o : Nat) (h : b < B) : x.w.cell? ⟨b, o, none⟩ = W.cell? ⟨b, o, none⟩ := x.h.cell (p := ⟨b, o, none⟩) h
theorem Later.frozen {B : Nat} {W : World} (x : Later B W) (b : Nat) (o : Nat) (h : b < B) : x.w.frozen? ⟨b, o, none⟩ = W.frozen? ⟨b, o, none⟩ := x.h.frozen (p := ⟨b, o, none⟩) h

theorem Later.calls {P : Program} {f : FuncId} {args : Array Value} {v : Value} {B : Nat} {W : World} (x : Later B W) (h : ∀ w : World, Calls P f args w fun e w' => e = .returned v ∧ Below w.heap.size w w') :
    Calls P f args x.w fun e w'' => e = .returned v ∧ ∃ y : Later B W, w'' = y.w :=
  (h x.w).mono fun _ w'' ⟨he, hb⟩ => ⟨he, ⟨w'', x.hs, x.h.trans (hb.mono (Nat.le_trans x.hs x.h.size))⟩, rfl⟩

theorem wp_region_later {P : Program} {id : Nat} {Q : Exit → Act → World → Prop} {a : Act} {W : World} {l : List Oper} (hm : P.follows .mixedOrders = true) (hB : Region.lexB .any l.toArray = true)
    (h : wpQuiet P l.toArray (fun w' => ∃ x : Later W.heap.size W, w' = x.w) (fun a' => ∀ w', Below W.heap.size W w' → Q .normal a' w') l a) : (Code.region id l.toArray true).wp P Q a W :=
  wp_region_quiet (C := fun w' => ∃ x : Later W.heap.size W, w' = x.w) hm hB ⟨⟨W.drew, Nat.le_refl _, (Below.refl _ _).drew⟩, rfl⟩ (by
    have hQ : ∀ (l' : List Oper) (a' : Act), wpQuiet P l.toArray (fun w' => ∃ x : Later W.heap.size W, w' = x.w) (fun a' => ∀ w', Below W.heap.size W w' → Q .normal a' w') l' a' →
        wpQuiet P l.toArray (fun w' => ∃ x : Later W.heap.size W, w' = x.w) (fun a' => ∀ w', (∃ x : Later W.heap.size W, w' = x.w) → Q .normal a' w') l' a' := by
      intro l'
      induction l' with
      | nil => intro a' h w' ⟨x, hx⟩; subst hx; exact h _ x.h
      | cons o r ih =>
        intro a' h
        unfold wpQuiet at h ⊢
        split
        · rename_i hw; rw [if_pos hw] at h; exact Oper.quiet_mono ih h
        · rename_i hw; rw [if_neg hw] at h; exact ih _ h
    exact hQ _ _ (by simpa using h))

end Go.Proofs.YtonekgefegfapaaGreat
