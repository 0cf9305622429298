/-
  PLAIN: the cipher layer as plain Lean functions over integers; nothing of the program is imported here.
-/
import Derived.Test.YtkhfkmfofhnmdaaPl
namespace Go.Proofs.Ytkhfkmfofhnmdaa
open Go.RowKit

structure Ky where
  m : Int
  a : Int
  s : Int
structure Ls where
  k : Int
  d : Int
structure Gs where
  a : Int
  p : Int
structure Bk where
  n : Int
  w : Int
  ks : List Ky
  ds : List Int
def Ky.cells (k : Ky) : List Value := [iv k.m, iv k.a, iv k.s]
def Ls.cells (l : Ls) : List Value := [iv l.k, iv l.d]
def Gs.cells (g : Gs) : List Value := [iv g.a, iv g.p]
def ic (n : Int) : List Value := [iv n]
/-- A list of numbers that came in or was made. -/
abbrev IntsAt (w : World) (v : Value) (l : List Int) : Prop := RowsAt w v 1 ic l

/-- The two slices hold, in w, the keys and the days of the book b. -/
structure BookAt (w : World) (v1 v2 : Value) (b : Bk) : Prop where
  ks : RowsAt w v1 3 Ky.cells b.ks
  ds : IntsAt w v2 b.ds
theorem BookAt.kept {w w' : World} {v1 v2 : Value} {b : Bk} (h : BookAt w v1 v2 b) (hb : Below w.heap.size w w') : BookAt w' v1 v2 b := ⟨h.ks.kept hb, h.ds.kept hb⟩
def bookV (b : Bk) (v1 v2 : Value) : Value := .agg #[iv b.n, iv b.w, v1, v2]
def deskV (b : Bk) (v1 v2 v3 : Value) : Value := .agg #[iv b.n, iv b.w, v1, v2, v3]

/-- n is from 0 to e less 1. -/
def belowB (n e : Int) : Bool := decide (0 ≤ n) && decide (n < e)
theorem belowB_iff {n e : Int} : belowB n e = true ↔ 0 ≤ n ∧ n < e := by simp [belowB]
theorem belowB_not {n e : Int} : belowB n e = false ↔ ¬ (0 ≤ n ∧ n < e) := by simp [belowB]
def keyB (n : Int) (k : Ky) : Bool := k.m != 0 && belowB k.m n && belowB k.a n && belowB k.s n
/-- No number from 2 on divides n. -/
def primeB (n : Nat) : Bool := (List.range n).all fun d => decide (d < 2) || decide (n % d ≠ 0)
def exceedsB (b : Bk) : Bool := decide (5 < b.ks.length) || decide (8 < b.ds.length)
def bookB (b : Bk) : Bool :=
  decide (13 ≤ b.n) && decide (b.n ≤ 41) && primeB b.n.toNat && decide (1 ≤ b.w) && decide (b.w ≤ b.n) && decide (0 < b.ks.length) && b.ks.all (keyB b.n) && decide (0 < b.ds.length) && b.ds.all (fun d => belowB d b.ks.length)
/-- The error of a book. -/
def bookE (b : Bk) : Int := if exceedsB b then 3 else if bookB b then 0 else 1
def lossB (b : Bk) (l : Ls) : Bool := belowB l.k b.ks.length && belowB l.d b.ds.length
/-- The error of a book with losses. -/
def deskE (b : Bk) (ls : List Ls) : Int := if bookE b ≠ 0 then bookE b else if 6 < ls.length then 3 else if ls.all (lossB b) then 0 else 2

/-- What a valid book owes. -/
structure BookOK (b : Bk) : Prop where
  n1 : 13 ≤ b.n
  n2 : b.n ≤ 41
  pr : primeB b.n.toNat = true
  w1 : 1 ≤ b.w
  w2 : b.w ≤ b.n
  k1 : 0 < b.ks.length
  k2 : b.ks.length ≤ 5
  d1 : 0 < b.ds.length
  d2 : b.ds.length ≤ 8
  ks : ∀ k ∈ b.ks, 0 < k.m ∧ k.m < b.n ∧ 0 ≤ k.a ∧ k.a < b.n ∧ 0 ≤ k.s ∧ k.s < b.n
  ds : ∀ d ∈ b.ds, 0 ≤ d ∧ d < b.ks.length
theorem bookE_zero {b : Bk} : bookE b = 0 ↔ exceedsB b = false ∧ bookB b = true := by
  unfold bookE
  cases exceedsB b <;> cases bookB b <;> simp
theorem BookOK.of {b : Bk} (h : bookE b = 0) : BookOK b := by
  obtain ⟨h1, h2⟩ := bookE_zero.1 h
  simp only [exceedsB, Bool.or_eq_false_iff, decide_eq_false_iff_not] at h1
  simp only [bookB, Bool.and_eq_true, decide_eq_true_eq, List.all_eq_true] at h2
  obtain ⟨⟨⟨⟨⟨⟨⟨⟨a1, a2⟩, a3⟩, a4⟩, a5⟩, a6⟩, a7⟩, a8⟩, a9⟩ := h2
  refine ⟨a1, a2, a3, a4, a5, a6, by omega, a8, by omega, fun k hk => ?_, fun d hd => belowB_iff.1 (a9 d hd)⟩
  have := a7 k hk
  simp only [keyB, Bool.and_eq_true, belowB_iff, bne_iff_ne] at this
  omega
theorem bookE_in (b : Bk) : bookE b = 0 ∨ bookE b = 1 ∨ bookE b = 3 := by
  unfold bookE
  cases exceedsB b <;> cases bookB b <;> simp

/-- The code of p at the index i, by the key k, the size being n. -/
def codeI (n : Int) (k : Ky) (p i : Int) : Int := (k.m * p + k.a + i * k.s) % n
def powI (m n : Int) : Nat → Int
  | 0 => 1
  | j + 1 => powI m n j * m % n
def undoI (m n : Int) : Int := powI m n (n - 2).toNat
/-- The plain number whose code at the index i is c. -/
def plainI (n : Int) (k : Ky) (c i : Int) : Int := (c - k.a - i * k.s) * undoI k.m n % n
/-- What the numbers become, the first one having the index i. -/
def codesI (n : Int) (k : Ky) : Nat → List Int → List Int
  | _, [] => []
  | i, p :: l => codeI n k p i :: codesI n k (i + 1) l
def plainsI (n : Int) (k : Ky) : Nat → List Int → List Int
  | _, [] => []
  | i, p :: l => plainI n k p i :: plainsI n k (i + 1) l
/-- The sum of all numbers, each times its place. -/
def sumI : Nat → List Int → Int
  | _, [] => 0
  | i, x :: l => x * (i + 1 : Nat) + sumI (i + 1) l
def checkI (n : Int) (l : List Int) : Int := sumI 0 l % n
def keyOf (b : Bk) (day : Nat) : Ky := b.ks.getD (b.ds.getD day 0).toNat ⟨1, 0, 0⟩
def indI (b : Bk) (day : Nat) : Int := (b.ds.getD day 0 + day) % b.ks.length
def dispatchI (b : Bk) (day : Nat) (l : List Int) : List Int :=
  let d := indI b day :: codesI b.n (keyOf b day) 0 l
  d ++ [checkI b.n d]

theorem powI_in {m n : Int} (h : 0 < n) (h1 : 1 < n) : ∀ j, 0 ≤ powI m n j ∧ powI m n j < n
  | 0 => by simp [powI]; omega
  | j + 1 => ⟨Int.emod_nonneg _ (by omega), Int.emod_lt_of_pos _ h⟩
theorem undo_all : ∀ n ∈ List.range 42, ∀ m ∈ List.range 42, primeB n = true → 13 ≤ n → 0 < m → m < n → powI (m : Int) (n : Int) (n - 2) * (m : Int) % (n : Int) = 1 := by decide +kernel
theorem undo_ok {m n : Int} (hp : primeB n.toNat = true) (h1 : 13 ≤ n) (h2 : n ≤ 41) (h3 : 0 < m) (h4 : m < n) : undoI m n * m % n = 1 := by
  have h := undo_all n.toNat (List.mem_range.2 (by omega)) m.toNat (List.mem_range.2 (by omega)) hp (by omega) (by omega) (by omega)
  rw [Int.toNat_of_nonneg (by omega), Int.toNat_of_nonneg (by omega)] at h
  unfold undoI
  rw [show (n - 2).toNat = n.toNat - 2 by omega]
  exact h
theorem codeI_in {n : Int} {k : Ky} {p i : Int} (h : 0 < n) : 0 ≤ codeI n k p i ∧ codeI n k p i < n := ⟨Int.emod_nonneg _ (by omega), Int.emod_lt_of_pos _ h⟩
theorem plainI_in {n : Int} {k : Ky} {p i : Int} (h : 0 < n) : 0 ≤ plainI n k p i ∧ plainI n k p i < n := ⟨Int.emod_nonneg _ (by omega), Int.emod_lt_of_pos _ h⟩

theorem plain_code {n : Int} {k : Ky} {p i : Int} (hu : undoI k.m n * k.m % n = 1) (hp : 0 ≤ p ∧ p < n) : plainI n k (codeI n k p i) i = p := by
  unfold plainI codeI
  have e : ((k.m * p + k.a + i * k.s) % n - k.a - i * k.s) * undoI k.m n % n = p % n := by
    apply Int.emod_emod_of_dvd _ (Int.dvd_refl n) |>.symm.trans
    have h2 : ((k.m * p + k.a + i * k.s) % n - k.a - i * k.s) % n = (k.m * p) % n := by
      rw [Int.emod_def (k.m * p + k.a + i * k.s) n, show k.m * p + k.a + i * k.s - n * ((k.m * p + k.a + i * k.s) / n) - k.a - i * k.s = k.m * p + n * (-((k.m * p + k.a + i * k.s) / n)) by rw [Int.mul_neg]; omega]
      exact Int.add_mul_emod_self_left _ _ _
    rw [Int.emod_emod_of_dvd _ (Int.dvd_refl n), Int.mul_emod, h2, ← Int.mul_emod]
    have h3 : k.m * p * undoI k.m n = (undoI k.m n * k.m) * p := by
      rw [Int.mul_comm (k.m * p), ← Int.mul_assoc]
    rw [h3, Int.mul_emod, hu, Int.one_mul, Int.emod_emod_of_dvd _ (Int.dvd_refl n)]
  rw [e]
  exact Int.emod_eq_of_lt hp.1 hp.2
theorem code_plain {n : Int} {k : Ky} {c i : Int} (hu : undoI k.m n * k.m % n = 1) (hp : 0 ≤ c ∧ c < n) : codeI n k (plainI n k c i) i = c := by
  unfold plainI codeI
  have e : (k.m * ((c - k.a - i * k.s) * undoI k.m n % n) + k.a + i * k.s) % n = c % n := by
    have h2 : (k.m * ((c - k.a - i * k.s) * undoI k.m n % n)) % n = (c - k.a - i * k.s) % n := by
      rw [Int.mul_emod, Int.emod_emod_of_dvd _ (Int.dvd_refl n), ← Int.mul_emod]
      have h3 : k.m * ((c - k.a - i * k.s) * undoI k.m n) = (undoI k.m n * k.m) * (c - k.a - i * k.s) := by
        rw [Int.mul_comm (c - k.a - i * k.s), ← Int.mul_assoc, Int.mul_comm k.m]
      rw [h3, Int.mul_emod, hu, Int.one_mul, Int.emod_emod_of_dvd _ (Int.dvd_refl n)]
    rw [Int.add_assoc, Int.add_emod, h2, ← Int.add_emod]
    congr 1
    omega
  rw [e]
  exact Int.emod_eq_of_lt hp.1 hp.2

end Go.Proofs.Ytkhfkmfofhnmdaa
