/-
  WALKS of the law's list, Thin, Key. No condition beyond the lists' lengths.
-/
import Derived.Test.YtkhfkmfofhnmdaaDd
namespace Go.Proofs.Ytkhfkmfofhnmdaa
open Go.RowKit Go.Shelf
attribute [local go_sem] Oper.semAt_some

def thinB (b : Bk) : Bool := decide (b.ks.length ≤ 8) && decide (b.ds.length ≤ 11)
set_option maxRecDepth 100000 in
set_option maxHeartbeats 1000000 in
theorem Thin_any (n ws : Int) (A1 A2 : Option Addr) (n1 n2 c1 c2 : Nat) (w : World) (h1 : n1 ≤ 9223372036854775807) (h2 : n2 ≤ 9223372036854775807) : Calls Try.prog 17 #[.agg #[iv n, iv ws, .slice A1 n1 c1, .slice A2 n2 c2]] w fun e w' => e = .returned (.bool (decide (n1 ≤ 8) && decide (n2 ≤ 11))) ∧ Below w.heap.size w w' := by
  by_cases d1 : n1 ≤ 8
  · have e1 : decide ((n1 : Int) ≤ 8) = true := by rw [decide_eq_true_iff]; omega
    by_cases d2 : n2 ≤ 11
    · have e2 : decide ((n2 : Int) ≤ 11) = true := by rw [decide_eq_true_iff]; omega
      go_enter Try.func17, Try.ntmps17
      go_wp2_with fail
      go_ret
      exact ⟨by simp [d1, d2, go_sem], up_alloc up0 _⟩
    · have e2 : decide ((n2 : Int) ≤ 11) = false := by rw [decide_eq_false_iff_not]; omega
      go_enter Try.func17, Try.ntmps17
      go_wp2_with fail
      go_ret
      exact ⟨by simp [d1, d2, go_sem], up_alloc up0 _⟩
  · have e1 : decide ((n1 : Int) ≤ 8) = false := by rw [decide_eq_false_iff_not]; omega
    go_enter Try.func17, Try.ntmps17
    go_wp2_with fail
    go_ret
    exact ⟨by simp [d1, go_sem], up_alloc up0 _⟩
set_option maxHeartbeats 400000 in
theorem Key_any (k : Ky) (w : World) : Calls Try.prog 54 #[.agg #[iv k.m, iv k.a, iv k.s]] w fun e w' => e = .returned (.agg #[iv k.m, iv k.a, iv k.s]) ∧ Below w.heap.size w w' := by
  go_enter Try.func54, Try.ntmps54
  go_wp2
  have N := Box.new (w := w.alloc (.cells #[iv k.m, iv k.a, iv k.s] 85)) (g := w.heap.size + 1) (t := 78) (cs := #[iv k.m, iv k.a, iv k.s]) (by simp)
  refine bodyPost_ret (v := .agg #[iv k.m, iv k.a, iv k.s]) (by
    have cN := fun i => N.cell i
    simp [results, Try.results54, go_sem, cN]) rfl ⟨rfl, up_alloc (up_alloc up0 _) _⟩
set_option maxRecDepth 100000 in
set_option maxHeartbeats 1000000 in
theorem list_own (v : Value) (l : List Int) (w : World) (hl : IntsAt w v l) : Calls Try.prog 22 #[v] w fun e w' => ∃ u, e = .returned u ∧ w'.ownsRow w.heap.size 3 1 u l.length (l.map iv) ∧ Below w.heap.size w w' := by
  obtain ⟨i0, hi0, hz0, hz1, hz2⟩ := info_parts int_info
  obtain ⟨h1, A1, c1, rfl, _, _⟩ := hl.form
  have HL := Lib.hid hl
  clear hl
  go_enter Try.func22, Try.ntmps22
  go_wp2_with (at_builtin; refine wpList_append_rows rfl (.tmp 3) (.tmp 4) 23 rfl w.heap.size 3 i0 _ 1 8 Try.underlying23 hi0 hz0 hz1 hz2 rfl (by decide) _ _ _ rfl (World.ownsRow_made w #[] 0 (Nat.le_refl _) (by decide) (by simp)) ic l _ rfl (HL.out.kept (up_alloc up0 _)) (fun _ => rfl) (by simp [ic, Value.oneCell']) (by unfold maxLen; omega) (by omega) (by simp) ?_; intro v' w' hown' hgrow _)
  go_ret
  rw [flat_ic, List.nil_append, Nat.zero_add] at hown'
  exact ⟨v', by simp [go_sem], hown', (up_alloc up0 _).grown hgrow (by simp) (fun k hk => Nat.le_of_eq (by simpa [Value.ownBlock, Act.eval] using hk))⟩
theorem list_any (v : Value) (l : List Int) (w : World) (hl : IntsAt w v l) : Calls Try.prog 22 #[v] w fun e w' => ∃ u, e = .returned u ∧ IntsAt w' u l ∧ Below w.heap.size w w' := by
  have h1 := hl.1
  refine (list_own v l w hl).mono ?_
  rintro e w' ⟨u, rfl, ho, hb⟩
  exact ⟨u, rfl, ints_of_own ho rfl h1, hb⟩
end Go.Proofs.Ytkhfkmfofhnmdaa
