/-
  PLAIN: the hill layer's geometry as plain Lean functions over integers; nothing of the program is imported here.
-/
import Derived.WalkKit
namespace Go.Proofs.Ytpmhhdhkhhlfpaa
open Go.RowKit

structure St where
  x : Int
  y : Int
  z : Int
  m : Int
structure Wl where
  x1 : Int
  y1 : Int
  x2 : Int
  y2 : Int
  b : Int
  t : Int
structure Cl where
  w : Wl
  f : Int
  t : Int
structure Sn where
  e : Int
  n : Int
  u : Int
structure Ln where
  a : St
  b : St

abbrev iv (n : Int) : Value := .int .i64 n
def St.cells (s : St) : List Value := [iv s.x, iv s.y, iv s.z, iv s.m]
def Wl.cells (w : Wl) : List Value := [iv w.x1, iv w.y1, iv w.x2, iv w.y2, iv w.b, iv w.t]
def Cl.cells (c : Cl) : List Value := [iv c.w.x1, iv c.w.y1, iv c.w.x2, iv c.w.y2, iv c.w.b, iv c.w.t, iv c.f, iv c.t]
def Sn.cells (s : Sn) : List Value := [iv s.e, iv s.n, iv s.u]

/-- On which side of the straight line from (ax, ay) to (bx, by') the place (px, py) is. -/
def sideI (ax ay bx b_y px py : Int) : Int := (bx - ax) * (py - ay) - (b_y - ay) * (px - ax)
def sizeI (n : Int) : Int := if n < 0 then -n else n

/-- The wall from (x1, y1) to (x2, y2) crosses the line between the places (ax, ay) and (bx, b_y). -/
def crossB (ax ay bx b_y x1 y1 x2 y2 : Int) : Bool := decide (sideI x1 y1 x2 y2 ax ay * sideI x1 y1 x2 y2 bx b_y < 0) && decide (sideI ax ay bx b_y x1 y1 * sideI ax ay bx b_y x2 y2 ≤ 0)
/-- Where the wall crosses the line, its height is so many parts (overP), of which so many make 1 (overQ). -/
def overP (ax ay az bx b_y bz x1 y1 x2 y2 : Int) : Int := if crossB ax ay bx b_y x1 y1 x2 y2 then az * sizeI (sideI x1 y1 x2 y2 bx b_y) + bz * sizeI (sideI x1 y1 x2 y2 ax ay) else 0
def overQ (ax ay bx b_y x1 y1 x2 y2 : Int) : Int := if crossB ax ay bx b_y x1 y1 x2 y2 then sizeI (sideI x1 y1 x2 y2 ax ay) + sizeI (sideI x1 y1 x2 y2 bx b_y) else 0
/-- The wall blocks the line. -/
def blockI (ax ay az bx b_y bz x1 y1 x2 y2 b t : Int) : Bool :=
  crossB ax ay bx b_y x1 y1 x2 y2 && (decide (b * overQ ax ay bx b_y x1 y1 x2 y2 ≤ overP ax ay az bx b_y bz x1 y1 x2 y2) && decide (overP ax ay az bx b_y bz x1 y1 x2 y2 ≤ t * overQ ax ay bx b_y x1 y1 x2 y2))
theorem sizeI_bd (n : Int) (m : Nat) (h : -(m : Int) ≤ n ∧ n ≤ m) : 0 ≤ sizeI n ∧ sizeI n ≤ m := by unfold sizeI; split <;> omega
/-- n is from lo to hi. -/
def inB (lo hi n : Int) : Bool := decide (lo ≤ n) && decide (n ≤ hi)
theorem inB_iff {lo hi n : Int} : inB lo hi n = true ↔ lo ≤ n ∧ n ≤ hi := by simp [inB]
theorem inB_not {lo hi n : Int} : inB lo hi n = false ↔ ¬ (lo ≤ n ∧ n ≤ hi) := by simp [inB]
/-- The numbers that the parts of a land may have, h being its last hour. -/
def frameV (h : Int) : Value := .agg #[iv 0, iv 100, iv 0, iv 1000, iv 1, iv 2, iv (-100), iv 100, iv 0, iv h]
def stB (s : St) : Bool := inB 0 100 s.x && inB 0 100 s.y && inB 0 1000 s.z && inB 1 2 s.m
def wlB (w : Wl) : Bool := (inB 0 100 w.x1 && inB 0 100 w.y1 && inB 0 100 w.x2 && inB 0 100 w.y2) && !(w.x1 == w.x2 && w.y1 == w.y2) && inB 0 1000 w.b && inB 0 1000 w.t && decide (w.b ≤ w.t)
def rgB (w : Wl) : Bool := wlB w && w.b == 0
def clB (h : Int) (c : Cl) : Bool := wlB c.w && inB 0 h c.f && inB 0 h c.t && decide (c.f ≤ c.t)
def snB (s : Sn) : Bool := inB (-100) 100 s.e && inB (-100) 100 s.n && inB (-100) 100 s.u
theorem bcell {W w1 : World} (hb : Below W.heap.size W w1) : (∀ b o, b < W.heap.size → w1.cell? ⟨b, o, none⟩ = W.cell? ⟨b, o, none⟩) ∧ (∀ b o, b < W.heap.size → w1.frozen? ⟨b, o, none⟩ = W.frozen? ⟨b, o, none⟩) :=
  ⟨fun b o h => hb.cell (p := ⟨b, o, none⟩) h, fun b o h => hb.frozen (p := ⟨b, o, none⟩) h⟩
theorem mul_in (a b : Int) (m n : Nat) (h1 : -(m : Int) ≤ a) (h2 : a ≤ m) (h3 : -(n : Int) ≤ b) (h4 : b ≤ n) : -((m * n : Nat) : Int) ≤ a * b ∧ a * b ≤ ((m * n : Nat) : Int) := by
  have ha : a.natAbs ≤ m := by omega
  have hb : b.natAbs ≤ n := by omega
  have h := Nat.mul_le_mul ha hb
  rw [← Int.natAbs_mul] at h
  omega
theorem ret_int {k : IntKind} {a b : Int} (h : a = b) : Ending.returned (.int k a) = .returned (.int k b) := by rw [h]
theorem ret_bool {a b : Bool} (h : a = b) : Ending.returned (.bool a) = .returned (.bool b) := by rw [h]
theorem wrap_in (n : Int) (m : Nat) (hm : m ≤ 9000000000000000000) (h : -(m : Int) ≤ n ∧ n ≤ m) : wrap64 n = n := by unfold wrap64; omega
theorem wrapK_in (n : Int) (m : Nat) (hm : m ≤ 9000000000000000000) (h : -(m : Int) ≤ n ∧ n ≤ m) : IntKind.i64.wrap n = n := by rw [IntKind.wrap_i64]; omega
theorem side_bd (ax ay bx b_y px py : Int) (h1 : 0 ≤ ax ∧ ax ≤ 100) (h2 : 0 ≤ ay ∧ ay ≤ 100) (h3 : 0 ≤ bx ∧ bx ≤ 100) (h4 : 0 ≤ b_y ∧ b_y ≤ 100) (h5 : 0 ≤ px ∧ px ≤ 100) (h6 : 0 ≤ py ∧ py ≤ 100) :
    (-10000 ≤ (bx - ax) * (py - ay) ∧ (bx - ax) * (py - ay) ≤ 10000) ∧ (-10000 ≤ (b_y - ay) * (px - ax) ∧ (b_y - ay) * (px - ax) ≤ 10000) ∧ -20000 ≤ sideI ax ay bx b_y px py ∧ sideI ax ay bx b_y px py ≤ 20000 := by
  have a := mul_in (bx - ax) (py - ay) 100 100 (by omega) (by omega) (by omega) (by omega)
  have b := mul_in (b_y - ay) (px - ax) 100 100 (by omega) (by omega) (by omega) (by omega)
  unfold sideI
  omega
theorem side_wrap (ax ay bx b_y px py : Int) (h1 : 0 ≤ ax ∧ ax ≤ 100) (h2 : 0 ≤ ay ∧ ay ≤ 100) (h3 : 0 ≤ bx ∧ bx ≤ 100) (h4 : 0 ≤ b_y ∧ b_y ≤ 100) (h5 : 0 ≤ px ∧ px ≤ 100) (h6 : 0 ≤ py ∧ py ≤ 100) :
    wrap64 (wrap64 ((bx - ax) * (py - ay)) - wrap64 ((b_y - ay) * (px - ax))) = sideI ax ay bx b_y px py := by
  obtain ⟨a, b, c⟩ := side_bd ax ay bx b_y px py h1 h2 h3 h4 h5 h6
  rw [wrap_in _ 10000 (by omega) a, wrap_in _ 10000 (by omega) b]
  unfold sideI at c ⊢
  exact wrap_in _ 20000 (by omega) c

theorem over_bd (ax ay az bx b_y bz x1 y1 x2 y2 : Int) (h1 : 0 ≤ ax ∧ ax ≤ 100) (h2 : 0 ≤ ay ∧ ay ≤ 100) (h3 : 0 ≤ bx ∧ bx ≤ 100) (h4 : 0 ≤ b_y ∧ b_y ≤ 100) (h5 : 0 ≤ x1 ∧ x1 ≤ 100) (h6 : 0 ≤ y1 ∧ y1 ≤ 100) (h7 : 0 ≤ x2 ∧ x2 ≤ 100) (h8 : 0 ≤ y2 ∧ y2 ≤ 100) (h9 : 0 ≤ az ∧ az ≤ 1000) (h10 : 0 ≤ bz ∧ bz ≤ 1000) :
    (-40000000 ≤ overP ax ay az bx b_y bz x1 y1 x2 y2 ∧ overP ax ay az bx b_y bz x1 y1 x2 y2 ≤ 40000000) ∧ 0 ≤ overQ ax ay bx b_y x1 y1 x2 y2 ∧ overQ ax ay bx b_y x1 y1 x2 y2 ≤ 40000 := by
  have s1 := sizeI_bd _ 20000 (side_bd x1 y1 x2 y2 ax ay h5 h6 h7 h8 h1 h2).2.2
  have s2 := sizeI_bd _ 20000 (side_bd x1 y1 x2 y2 bx b_y h5 h6 h7 h8 h3 h4).2.2
  have m1 := mul_in az (sizeI (sideI x1 y1 x2 y2 bx b_y)) 1000 20000 (by omega) (by omega) (by omega) (by omega)
  have m2 := mul_in bz (sizeI (sideI x1 y1 x2 y2 ax ay)) 1000 20000 (by omega) (by omega) (by omega) (by omega)
  unfold overP overQ
  cases crossB ax ay bx b_y x1 y1 x2 y2
  · simp
  · simp only [if_true]
    omega

end Go.Proofs.Ytpmhhdhkhhlfpaa
