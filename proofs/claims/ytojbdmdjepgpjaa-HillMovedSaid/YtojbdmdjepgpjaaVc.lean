/-
  PLAIN: a land in memory of its own, to which a ridge is appended, or of which a case is another one; what the end of a law's proof needs of types.
-/
import Derived.Test.YtojbdmdjepgpjaaCv
import Derived.Test.YtojbdmdjepgpjaaVp
namespace Go.Proofs.Ytojbdmdjepgpjaa
open Go.RowKit

theorem own_cell {w : World} {n0 e sz n p b m cap : Nat} {xs : List Value} {u : Value} (h : w.ownsRow n0 e sz (.slice (some ⟨b, 0, none⟩) m cap) n xs) (hu : xs[p]? = some u) : w.cell? ⟨b, p, none⟩ = some u := by
  rcases h.2 with ⟨h0, _⟩ | ⟨g, cap', cur, h0, hbg, hg, hnc, hcm, hcs, htk⟩
  · cases h0
  · cases h0
    rw [cell_of_row w b p cur e (0, 0) hg]
    rw [← htk, List.getElem?_take] at hu
    split at hu
    · simpa using hu
    · cases hu

/-- No block holds both, or the first lies in none. -/
def Ap (u v : Value) : Prop := u.ownBlock = none ∨ u.ownBlock ≠ v.ownBlock
theorem Ap.symm {u v : Value} (h : Ap u v) : Ap v u := by
  rcases h with h | h
  · cases hv : v.ownBlock with
    | none => exact .inl hv
    | some b => exact .inr (by rw [hv, h]; simp)
  · exact .inr (Ne.symm h)
section
variable {e1 e2 e3 e4 e5 n0 : Nat} {L : Ld} {w w2 : World} {u1 u2 u3 u4 u' : Value} {c : List (Value × List Cl)}
theorem Cop.far {j k : Nat} {x z : Value × List Cl} (h : Cop e1 e2 e3 e4 e5 n0 L w u1 u2 u3 u4 c) (hx : c[j]? = some x) (hz : c[k]? = some z) (hjk : j ≠ k) : Ap x.1 z.1 := by
  obtain ⟨hj, rfl⟩ := List.getElem?_eq_some_iff.1 hx
  obtain ⟨hk, rfl⟩ := List.getElem?_eq_some_iff.1 hz
  have hp := List.pairwise_iff_getElem.1 h.apart
  rcases Nat.lt_or_gt_of_ne hjk with hlt | hlt
  · exact hp j k hj hk hlt
  · exact Ap.symm (hp k j hk hj hlt)
theorem Cop.moreRg {x : Wl} (h : Cop e1 e2 e3 e4 e5 n0 L w u1 u2 u3 u4 c) (hg : w.grownBy w2 u2.ownBlock) (ho : w2.ownsRow n0 e2 6 u' (L.rg.length + 1) (L.rg.flatMap Wl.cells ++ Wl.cells x)) (d1 : e1 ≠ e2) (d3 : e3 ≠ e2) (d4 : e4 ≠ e2) (d5 : e5 ≠ e2) :
    Cop e1 e2 e3 e4 e5 n0 (addRg L x) w2 u1 u' u3 u4 c := by
  refine ⟨own_other h.o1 h.o2 d1 hg, ?_, own_other h.o3 h.o2 d3 hg, own_other h.o4 h.o2 d4 hg, h.ec, fun y hy => own_other (h.each y hy) h.o2 d5 hg, h.apart⟩
  simpa [addRg, List.flatMap_append] using ho
theorem Cop.otherCs {b3 o3 m3 p3 k : Nat} {z z' : Value} {zs l : List Cl} (h : Cop e1 e2 e3 e4 e5 n0 L w u1 u2 (.slice (some ⟨b3, o3, none⟩) m3 p3) u4 c) (hz : c[k]? = some (z, zs)) (hg : w.grownBy w2 z.ownBlock)
    (ho : w2.ownsRow n0 e5 8 z' l.length (l.flatMap Cl.cells)) (hat : z'.ownBlock = z.ownBlock ∨ ∀ b, z'.ownBlock = some b → w.heap.size ≤ b) (d1 : e1 ≠ e5) (d2 : e2 ≠ e5) (d3 : e3 ≠ e5) (d4 : e4 ≠ e5) (f1 : e1 ≠ e3) (f2 : e2 ≠ e3) (f4 : e4 ≠ e3) :
    Cop e1 e2 e3 e4 e5 n0 (setCs L k l) (w2.setCell ⟨b3, k, none⟩ z') u1 u2 (.slice (some ⟨b3, o3, none⟩) m3 p3) u4 (c.set k (z', l)) := by
  have hzo : w.ownsRow n0 e5 8 z zs.length (zs.flatMap Cl.cells) := h.each (z, zs) (List.mem_of_getElem? hz)
  have g3 := own_other h.o3 hzo d3 hg
  obtain ⟨_, _, go⟩ := own_put (i := k) (u := z') g3
  have hg' : w2.grownBy (w2.setCell ⟨b3, k, none⟩ z') (Value.ownBlock (.slice (some ⟨b3, o3, none⟩) m3 p3)) := grownBy_set w2 b3 k z'
  refine ⟨own_other (own_other h.o1 hzo d1 hg) g3 f1 hg', own_other (own_other h.o2 hzo d2 hg) g3 f2 hg', ?_, own_other (own_other h.o4 hzo d4 hg) g3 f4 hg', ?_, ?_, ?_⟩
  · have e : (c.set k (z', l)).map (·.1) = (c.map (·.1)).set k z' := by rw [List.map_set]
    rw [e]
    simpa [setCs] using go
  · rw [List.map_set, h.ec]
    rfl
  · intro x hx
    obtain ⟨j, hj, rfl⟩ := List.getElem_of_mem hx
    rw [List.getElem_set]
    split
    · exact own_other ho g3 (Ne.symm d3) hg'
    · rename_i hkj
      have hjl : j < c.length := by simpa using hj
      refine own_other ((h.each _ (List.getElem_mem hjl)).kept hg ?_) g3 (Ne.symm d3) hg'
      exact h.far (List.getElem?_eq_getElem hjl) hz (Ne.symm hkj)
  · rw [List.pairwise_iff_getElem]
    intro i j hi hj hij
    have hil : i < c.length := by simpa using hi
    have hjl : j < c.length := by simpa using hj
    have key : ∀ q (hq : q < c.length), q ≠ k → Ap (c[q]).1 z' := fun q hq hqk => by
      have hf := h.far (List.getElem?_eq_getElem hq) hz hqk
      rcases hat with e | e
      · unfold Ap at hf ⊢
        rw [e]
        exact hf
      · cases hb : (c[q]).1.ownBlock with
        | none => exact .inl hb
        | some b =>
          refine .inr fun he => ?_
          have h1 := e b (by rw [← he, hb])
          have h2 := ((h.each _ (List.getElem_mem hq)).lt b hb).2
          omega
    rw [List.getElem_set, List.getElem_set]
    by_cases h1 : k = i
    · rw [if_pos h1, if_neg (by omega)]
      exact (key j hjl (by omega)).symm
    · rw [if_neg h1]
      by_cases h2 : k = j
      · rw [if_pos h2]
        exact key i hil (by omega)
      · rw [if_neg h2]
        exact List.pairwise_iff_getElem.1 h.apart i j hil hjl hij
/-- The case k of the copy. -/
theorem Cop.case {k : Nat} {zs : List Cl} (h : Cop e1 e2 e3 e4 e5 n0 L w u1 u2 u3 u4 c) (hk : L.cs[k]? = some zs) : ∃ A m p, c[k]? = some (.slice A m p, zs) ∧ w.ownsRow n0 e5 8 (.slice A m p) zs.length (zs.flatMap Cl.cells) := by
  have hl := congrArg List.length h.ec
  have hlt := (List.getElem?_eq_some_iff.1 hk).1
  rw [List.length_map] at hl
  obtain ⟨q, hq⟩ : ∃ q, c[k]? = some q := ⟨_, List.getElem?_eq_getElem (by omega)⟩
  obtain ⟨z, ys⟩ := q
  have hy : ys = zs := by
    have := hk
    rw [← h.ec, List.getElem?_map, hq] at this
    simpa using this
  subst hy
  have ho : w.ownsRow n0 e5 8 z ys.length (ys.flatMap Cl.cells) := h.each (z, ys) (List.mem_of_getElem? hq)
  obtain ⟨A, m, p, rfl⟩ := own_form ho
  exact ⟨A, m, p, hq, ho⟩
end
/-- A case of a land that reads. -/
theorem LandAt.case {w : World} {v1 v2 v3 v4 : Value} {L : Ld} {c : List (Value × List Cl)} {k : Nat} {zs : List Cl} (h : LandAt w v1 v2 v3 v4 L c) (hk : L.cs[k]? = some zs) : ∃ A p, c[k]? = some (.slice A zs.length p, zs) ∧ RowsAt w (.slice A zs.length p) 8 Cl.cells zs := by
  have hl := congrArg List.length h.eq
  have hlt := (List.getElem?_eq_some_iff.1 hk).1
  rw [List.length_map] at hl
  obtain ⟨q, hq⟩ : ∃ q, c[k]? = some q := ⟨_, List.getElem?_eq_getElem (by omega)⟩
  obtain ⟨z, ys⟩ := q
  have hy : ys = zs := by
    have := hk
    rw [← h.eq, List.getElem?_map, hq] at this
    simpa using this
  subst hy
  have ho : RowsAt w z 8 Cl.cells ys := h.each (z, ys) (List.mem_of_getElem? hq)
  obtain ⟨_, A, p, rfl, _, _⟩ := ho.form
  exact ⟨A, p, hq, ho⟩

theorem rec79 : Try.prog.readableRec 79 = true ∧ 79 < Try.prog.types.size := ⟨by kernel_rfl, by have h : decide (79 < Try.prog.types.size) = true := (by kernel_rfl); exact of_decide_eq_true h⟩
theorem rec76 : Try.prog.readableRec 76 = true ∧ 76 < Try.prog.types.size := ⟨by kernel_rfl, by have h : decide (76 < Try.prog.types.size) = true := (by kernel_rfl); exact of_decide_eq_true h⟩
theorem rec4 : Try.prog.readableRec 4 = true ∧ 4 < Try.prog.types.size := ⟨by kernel_rfl, by have h : decide (4 < Try.prog.types.size) = true := (by kernel_rfl); exact of_decide_eq_true h⟩
theorem und79 : Try.prog.underlying 79 = some (.struct (Try.prog.fieldsOf 79)) := by kernel_rfl
/-- The walls of a land that is valid. -/
theorem walls_ok {L : Ld} {k h : Nat} {a b : Int} (ho : openI L k h [a, b] = 0) : wallsE L a b k h = (ridgesI L a b, cloudsI L a b k h, 0) := by
  unfold wallsE
  rw [if_neg (by simp [ho])]
theorem hours_ok {L : Ld} {k : Nat} {a b : Int} (ho : openI L k (0 : Nat) [a, b] = 0) : hoursE L a b k = (uptoF (fun h => freeB L a b k h) L.sn.length, 0) := by
  unfold hoursE
  rw [if_neg (by simpa using ho)]
theorem lens {w : World} {v1 v2 v3 v4 : Value} {L : Ld} {c : List (Value × List Cl)} (h : LandAt w v1 v2 v3 v4 L c) : ∀ x ∈ L.cs, x.length ≤ 1000 := fun x hx => by
  rw [← h.eq] at hx
  obtain ⟨y, hy, rfl⟩ := List.mem_map.1 hx
  exact (h.each y hy).form.1
theorem case_len {L : Ld} (he : errI L = 0) : ∀ x ∈ L.cs, x.length ≤ 4 := by
  intro x hx
  have h := (err_parts he).1
  unfold exB at h
  rw [Bool.or_eq_false_iff] at h
  have := List.any_eq_false.1 h.2 x hx
  simpa using this
theorem len_other {L : Ld} {k : Nat} {l : List Cl} (he : errI L = 0) (hl : l.length ≤ 5) : ∀ x ∈ (setCs L k l).cs, x.length ≤ 1000 := by
  intro x hx
  rcases List.mem_or_eq_of_mem_set hx with h | rfl
  · have := case_len he x h
    omega
  · omega

end Go.Proofs.Ytojbdmdjepgpjaa
