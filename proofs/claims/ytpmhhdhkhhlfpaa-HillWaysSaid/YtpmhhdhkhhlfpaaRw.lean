/-
  PLAIN: a slice that reads as a list of structs ('RowsAt'), and how it lasts; no function of the program is named.
-/
import Derived.Test.YtpmhhdhkhhlfpaaBx
namespace Go.Proofs.Ytpmhhdhkhhlfpaa
open Go.RowKit

/-- The slice v reads, in w, as the list l: each element lies in sz cells. -/
def RowsAt {α : Type} (w : World) (v : Value) (sz : Nat) (cells : α → List Value) (l : List α) : Prop :=
  l.length ≤ 1000 ∧ ∃ A cap, v = .slice A l.length cap ∧ l.length ≤ cap ∧ cap ≤ 9223372036854775807 ∧
    (l ≠ [] → ∃ b off, A = some ⟨b, off, none⟩ ∧ b < w.heap.size ∧ ∀ i x, l[i]? = some x → ∀ j u, (cells x)[j]? = some u → w.cell? ⟨b, off + i * sz + j, none⟩ = some u)

section
variable {α : Type} {w w' : World} {v : Value} {sz : Nat} {cells : α → List Value} {l : List α}
theorem RowsAt.kept (h : RowsAt w v sz cells l) (hb : Below w.heap.size w w') : RowsAt w' v sz cells l := by
  obtain ⟨h0, A, cap, h1, h2, h3, h4⟩ := h
  refine ⟨h0, A, cap, h1, h2, h3, fun hne => ?_⟩
  obtain ⟨b, off, e, hlt, hc⟩ := h4 hne
  exact ⟨b, off, e, Nat.lt_of_lt_of_le hlt hb.size, fun i x hx j u hu => (hb.cell (p := ⟨b, off + i * sz + j, none⟩) hlt).trans (hc i x hx j u hu)⟩
theorem RowsAt.nil (cells : α → List Value) : RowsAt w (.slice none 0 0) sz cells [] :=
  ⟨by simp, none, 0, rfl, by simp, by omega, fun h => absurd rfl h⟩
/-- What a walk over the list wants: the slice's value, or that it is empty. -/
theorem RowsAt.form (h : RowsAt w v sz cells l) : l.length ≤ 1000 ∧ ∃ A cap, v = .slice A l.length cap ∧ l.length ≤ cap ∧ cap ≤ 9223372036854775807 := by
  obtain ⟨h0, A, cap, h1, h2, h3, _⟩ := h
  exact ⟨h0, A, cap, h1, h2, h3⟩
theorem RowsAt.at (h : RowsAt w v sz cells l) {A : Option Addr} {n cap : Nat} (hv : v = .slice A n cap) {i : Nat} {x : α} (hx : l[i]? = some x) :
    ∃ b off, A = some ⟨b, off, none⟩ ∧ b < w.heap.size ∧ ∀ j u, (cells x)[j]? = some u → w.cell? ⟨b, off + i * sz + j, none⟩ = some u := by
  obtain ⟨_, A', cap', h1, _, _, h4⟩ := h
  have hne : l ≠ [] := fun e => by subst e; simp at hx
  obtain ⟨b, off, e, hlt, hc⟩ := h4 hne
  rw [hv] at h1
  injection h1 with hA
  subst hA
  exact ⟨b, off, e, hlt, fun j u hu => hc i x hx j u hu⟩
end

theorem all_take_succ {α : Type} {l : List α} {p : α → Bool} {k : Nat} {x : α} (hx : l[k]? = some x) (h : (l.take k).all p = true) (hp : p x = true) : (l.take (k + 1)).all p = true := by
  rw [List.take_add_one, hx]
  simp at h ⊢
  exact ⟨h, hp⟩
theorem all_false {α : Type} {l : List α} {p : α → Bool} {k : Nat} {x : α} (hx : l[k]? = some x) (hp : p x = false) : l.all p = false := by
  have hm := List.mem_of_getElem? hx
  cases h : l.all p with
  | false => rfl
  | true => rw [List.all_eq_true.1 h x hm] at hp; cases hp

structure Ld where
  st : List St
  rg : List Wl
  cs : List (List Cl)
  sn : List Sn

/-- The value reads, in w, as the land L; 'c' are its cases, each with the slice that holds it. -/
structure LandAt (w : World) (v1 v2 v3 v4 : Value) (L : Ld) (c : List (Value × List Cl)) : Prop where
  st : RowsAt w v1 4 St.cells L.st
  rg : RowsAt w v2 6 Wl.cells L.rg
  cs : RowsAt w v3 1 (fun x => [x.1]) c
  eq : c.map (·.2) = L.cs
  each : ∀ x ∈ c, RowsAt w x.1 8 Cl.cells x.2
  sn : RowsAt w v4 3 Sn.cells L.sn
theorem LandAt.kept {w w' : World} {v1 v2 v3 v4 : Value} {L : Ld} {c : List (Value × List Cl)} (h : LandAt w v1 v2 v3 v4 L c) (hb : Below w.heap.size w w') : LandAt w' v1 v2 v3 v4 L c :=
  ⟨h.st.kept hb, h.rg.kept hb, h.cs.kept hb, h.eq, fun x hx => (h.each x hx).kept hb, h.sn.kept hb⟩

def exB (L : Ld) : Bool := decide (6 < L.st.length) || decide (6 < L.rg.length) || decide (4 < L.cs.length) || decide (12 < L.sn.length) || L.cs.any fun x => decide (4 < x.length)
def apartB (l : List St) : Bool := decide ((l.map fun s => (s.x, s.y)).Nodup)
def validB (L : Ld) : Bool :=
  decide (0 < L.st.length) && decide (0 < L.cs.length) && decide (0 < L.sn.length) && L.st.all stB && apartB L.st && L.rg.all rgB && (L.cs.all fun x => x.all (clB ((L.sn.length : Int) - 1))) && L.sn.all snB

end Go.Proofs.Ytpmhhdhkhhlfpaa
