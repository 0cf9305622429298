/-
  FlashProves holds: slices that come in, read as lists; the lift.
-/
import Derived.Test.YtonekgefegfapaaGreatGn
import Derived.Test.YtonekgefegfapaaGreatGq
namespace Go.Proofs.YtonekgefegfapaaGreat
open Go.ChangeShapes Go.WideShapes Go.ChangeAt Go.RowKit

theorem list_by {α : Type} {n : Nat} {q : Nat → α → Prop} (h : ∀ i, i < n → ∃ a, q i a) : ∃ l : List α, l.length = n ∧ ∀ i a, l[i]? = some a → q i a := by
  induction n with
  | zero => exact ⟨[], rfl, fun i a ha => by simp at ha⟩
  | succ n ih =>
    obtain ⟨l, hl, hq⟩ := ih fun i hi => h i (by omega)
    obtain ⟨a, ha⟩ := h n (by omega)
    refine ⟨l ++ [a], by simp [hl], fun i b hb => ?_⟩
    by_cases hi : i < l.length
    · rw [List.getElem?_append_left hi] at hb
      exact hq i b hb
    · rw [List.getElem?_append_right (by omega)] at hb
      have h0 : i - l.length = 0 := by
        have := (List.getElem?_eq_some_iff.1 hb).1
        simp at this
        omega
      rw [h0] at hb
      have hab : a = b := by simpa using hb
      subst hab
      have : i = n := by omega
      subst this
      exact ha

section
variable {H : Type} {enc : TypeId × Value → H} {W : World} {base : Nat} {spare : Nat → Bool} {held : Bool}

theorem open_rows {α : Type} {P : Program} {t e : TypeId} {sz fuel : Nat} {cs : List Value} {x : DataW H × List MemPlace} {cells : α → List Value} {p : α → Prop} (ht : P.underlying t = some (.slice e)) (hsz : P.cellsOf e = sz) (hs0 : 0 < sz)
    (hread : ∀ fuel cs x, DataW.trod enc P W base spare held fuel e cs = some x → ∃ a : α, cs = cells a ∧ p a) (h : DataW.trod enc P W base spare held fuel t cs = some x) : ∃ v l, cs = [v] ∧ RowsAny W v sz cells l ∧ ∀ a ∈ l, p a := by
  rcases Deep.open_slice ht h with ⟨rfl, _⟩ | ⟨a, len, cap, m, n, D, Pl, rfl, hb, hle, hcm, hm, _, hel⟩
  · exact ⟨_, [], rfl, ⟨none, 0, rfl, by simp, by omega, fun h => absurd rfl h⟩, fun _ h => by cases h⟩
  · have hlm : len ≤ m := by rw [hm]; split <;> omega
    obtain ⟨l, hl, hq⟩ := list_by (n := len) (q := fun i (z : α) => W.cells? base (a.add (i * sz)) sz = some (cells z) ∧ p z) fun i hi => by
      obtain ⟨cs', h1, h2⟩ := hel i (by omega)
      obtain ⟨z, rfl, hz⟩ := hread _ _ _ h2
      exact ⟨z, by rw [← hsz]; exact h1, hz⟩
    refine ⟨_, l, rfl, ⟨some a, cap, by rw [hl], by omega, by unfold maxLen at hcm; omega, fun hne => ?_⟩, fun z hz => ?_⟩
    · obtain ⟨z0, hz0⟩ : ∃ z, l[0]? = some z := ⟨_, List.getElem?_eq_getElem (by have := List.length_pos_iff.2 hne; omega)⟩
      have h0 := World.cells?_some (hq 0 z0 hz0).1
      have hc0 := h0.2.2 0 hs0
      obtain ⟨u0, hu0⟩ : ∃ u, (cells z0)[0]? = some u := ⟨_, List.getElem?_eq_getElem (by rw [h0.2.1]; exact hs0)⟩
      rw [hu0] at hc0
      obtain ⟨ab, ao, asp⟩ := a
      have hsp : asp = none := by
        cases asp with
        | none => rfl
        | some s =>
          exfalso
          simp only [Nat.zero_mul] at hc0
          unfold World.cell? at hc0
          simp [Addr.add] at hc0
          split at hc0 <;> simp at hc0
      subst hsp
      have hlt : ab < W.heap.size := by
        have := World.block_lt_of_cell? W _ hc0
        simpa [Addr.add] using this
      refine ⟨ab, ao, rfl, hlt, fun i z hz j u hu => ?_⟩
      have hi := World.cells?_some (hq i z hz).1
      have hj : j < sz := by rw [← hi.2.1]; exact (List.getElem?_eq_some_iff.1 hu).1
      have := hi.2.2 j hj
      rw [hu, addr_add, addr_add] at this
      exact this
    · obtain ⟨i, hi, rfl⟩ := List.getElem_of_mem hz
      exact (hq i _ (List.getElem?_eq_getElem hi)).2

theorem int3 : Tryz.prog.underlying 3 = some (.int .i64) := by kernel_rfl
theorem open_num {fuel : Nat} {cs : List Value} {x : DataW H × List MemPlace} (h : DataW.trod enc Tryz.prog W base spare held fuel 3 cs = some x) : ∃ k : Int, cs = ic k ∧ True := by
  obtain ⟨z, hz, _⟩ := DataW.trod_int int3 h
  exact ⟨z, hz, trivial⟩
theorem open_list {fuel : Nat} {cs : List Value} {x : DataW H × List MemPlace} (h : DataW.trod enc Tryz.prog W base spare held fuel 25 cs = some x) : ∃ v l, cs = [v] ∧ RowsAny W v 1 ic l := by
  obtain ⟨v, l, e, r, _⟩ := open_rows (e := 3) (sz := 1) (cells := ic) (p := fun _ => True) (by kernel_rfl) (by kernel_rfl) (by omega) (fun _ _ _ h => open_num h) h
  exact ⟨v, l, e, r⟩
end
theorem rec25 : Tryz.prog.readableRec 25 = true ∧ 25 < Tryz.prog.types.size := ⟨by kernel_rfl, by have h : decide (25 < Tryz.prog.types.size) = true := (by kernel_rfl); exact of_decide_eq_true h⟩
theorem rec3 : Tryz.prog.readableRec 3 = true ∧ 3 < Tryz.prog.types.size := ⟨by kernel_rfl, by have h : decide (3 < Tryz.prog.types.size) = true := (by kernel_rfl); exact of_decide_eq_true h⟩

set_option maxRecDepth 100000 in
theorem flashProves_lifted (os : Os) (started : os.Started) (H : Type) (enc : TypeId × Value → H) :
    ReturnsInHanded {} Tryz.checked os 5 .any (Rows.flashProvesSpec.pre6 enc Tryz.prog Tryz.f5 Rows.flashProvesRow.domain false) (Rows.flashProvesSpec.post enc Tryz.prog Tryz.f5 false true false false) := by
  refine returnsInHanded_of_change (C := Tryz.checked) own_knob started (by kernel_rfl) Tryz.func5
    (ChangeSpec.witness6 (enc := enc) (C := Tryz.checked) false ⟨#[], #[.string ⟨#[]⟩, .string ⟨#[]⟩, .slice Option.none 0 0, .int .i64 0], []⟩ 8 (by kernel_rfl) (by kernel_rfl) (by kernel_rfl) (by kernel_rfl)) ?_
  intro W base args ds gs before hval0 hW hcnd _
  have hval : ∀ (j : Nat) t v, Tryz.f5.params[j]? = some t → args[j]? = some v → Value.okWide Tryz.prog W .any base t v := hval0
  have hW' := hW
  obtain ⟨p, q, hA0, hV, rfl, hfz, hnd⟩ := hW
  have hA : DataW.TrodAll enc Tryz.prog W 0 (fun _ => true) true Tryz.f5.params.toList args.toList ds p := hA0
  rw [Tryz.params5] at hA hval
  have hlt : ∀ x ∈ p, x.block < W.heap.size := fun x hx => hW'.lt x (List.mem_append_left _ hx)
  have hAk := hA
  obtain ⟨v0, vs0, d0, ds0, p0, q0, hargs, rfl, rfl, h0, r0⟩ := trodAll_cons hA
  obtain ⟨v1, vs1, d1, ds1, p1, q1, rfl, rfl, rfl, h1, r1⟩ := trodAll_cons r0
  obtain ⟨v2, vs2, d2, ds2, p2, q2, rfl, rfl, rfl, h2, r2⟩ := trodAll_cons r1
  obtain ⟨v3, vs3, d3, ds3, p3, q3, rfl, rfl, rfl, h3, r3⟩ := trodAll_cons r2
  obtain ⟨rfl, rfl, rfl⟩ := trodAll_nil r3
  obtain rfl : args = #[v0, v1, v2, v3] := by cases args; simp_all
  obtain ⟨rfl, rfl⟩ := trodVars_none hV
  obtain ⟨a0, rfl, rfl, rfl, _⟩ := Go.ChangeMaps.open_string Tryz.underlying9 (hval 0 9 v0 rfl rfl) h0
  obtain ⟨a1, rfl, rfl, rfl, _⟩ := Go.ChangeMaps.open_string Tryz.underlying9 (hval 1 9 v1 rfl rfl) h1
  obtain ⟨b2, len2, cap2, rfl⟩ := okWide_slice Tryz.underlying25 (hval 2 25 v2 rfl rfl)
  obtain ⟨fuel2, h2⟩ := h2
  obtain ⟨v, l2, e2, hl2⟩ := open_list h2
  obtain rfl : v = .slice b2 len2 cap2 := by
    have h : [Value.slice b2 len2 cap2] = [v] := e2
    injection h with h _
    exact h.symm
  obtain ⟨a3, rfl, rfl, rfl, _⟩ := open_int Tryz.underlying3 (hval 3 3 v3 rfl rfl) h3
  clear hA0 hval0 hval hA
  simp only [List.append_nil] at hW'
  simp only [List.append_nil] at hAk hlt
  refine (proves_any a0 a1 _ l2 a3 W hl2).mono fun e W' ⟨he, hg⟩ => ?_
  subst he
  refine ⟨_, rfl, post_below (pv := []) hW' hg (fun _ _ _ => (trodAll_cons_mk (shut_bool Tryz.underlying4 _) trodAll_mk0)) (fun sp hsp => ?_) (fun _ _ => rfl) (List.append_nil _).symm
    (ok_one (by kernel_rfl) rfl (okWide_bool_mk Tryz.underlying4 _))⟩
  rw [Tryz.params5]
  refine args_stay laid_out hg (fun t ht => ?_) hAk hlt sp (fun x hx => hsp x (by first | exact hx | simpa using hx))
  simp only [List.mem_cons, List.not_mem_nil, or_false] at ht
  rcases ht with rfl | rfl | rfl | rfl
  · exact rec9
  · exact rec9
  · exact rec25
  · exact rec3

theorem flashProves_over : Rows.flashProvesRow.holds Tryz.pinned (OpenSpec.ofChange Rows.flashProvesSpec) :=
  OpenClaim.holds_of_wide 5 Tryz.f5 rfl rfl rfl rfl rfl rfl rfl ⟨rfl, rfl, rfl, rfl, rfl⟩ rfl rfl rfl rfl rfl (by kernel_rfl) Tryz.func5 (by kernel_rfl)
    (of_decide_eq_true (by kernel_rfl)) (by unfold Func.isWrapper; first | (rw [if_pos (by decide +kernel)]; kernel_rfl) | (rw [if_neg (by decide +kernel)]; exact ⟨rfl, rfl⟩))
    (fun os started H enc _ => flashProves_lifted os started H enc)

theorem FlashProves_holds : Rows.FlashProvesSaid := flashProves_over

end Go.Proofs.YtonekgefegfapaaGreat
