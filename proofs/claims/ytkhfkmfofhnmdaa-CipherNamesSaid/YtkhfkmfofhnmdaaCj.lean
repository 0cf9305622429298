/-
  WALKS of slices.Grow (of the nil slice), slices.Concat (of two slices of numbers). Conditions: from 1 to 1000 numbers in all.
-/
import Derived.Test.YtkhfkmfofhnmdaaCi
namespace Go.Proofs.Ytkhfkmfofhnmdaa
open Go.RowKit

def GivesOwn (w : World) (e : Ending) (w' : World) : Prop := ∃ v, e = .returned v ∧ w'.ownsRow w.heap.size 3 1 v 0 [] ∧ Below w.heap.size w w' ∧ ∃ g cap, v = .slice (some ⟨g, 0, none⟩) 0 cap ∧ w.heap.size ≤ g

set_option maxRecDepth 100000 in
set_option maxHeartbeats 2000000 in
theorem Grow_any (n : Nat) (w : World) (h1 : 1 ≤ n) (h2 : n ≤ 1000) : Calls Try.prog 109 #[.slice none 0 0, .int .i64 n] w (GivesOwn w) := by
  obtain ⟨i0, hi, hz0, hz1, hz2⟩ := info_parts int_info
  have hrz : ∀ ty, (Builtin.append_ #[23, 3] ty #[.slice none 0 0, .int .i64 (n : Int)]).run Try.prog w =
      .ok (.slice (some ⟨w.heap.size, 0, none⟩) n (grownCap w n 0 3)) (w.drew.alloc (.cells (Builtin.zeroCells (Value.int .i64 0).cells n ++ Builtin.zeroCells (Value.int .i64 0).cells (grownCap w n 0 3 - n)) 3)) := fun ty => by
    have h := Lib.run_append_grow_zeros (P := Try.prog) w 23 3 ty 3 i0 (.int .i64 0) .i64 .i64 Try.underlying23 Try.underlying3 hi hz0 none 0 0 [] (by rw [hz1]; exact run_firstCells_none w.drew 1 0 0 0) n (by omega) (by omega) (by omega) (by omega)
      (by rw [hz2]; omega) (by rw [hz2]; exact growslice_fits (by omega) (by omega))
    simpa using h
  have hG1 : n ≤ grownCap w n 0 3 := grownCap_ge w _ _ _
  have hG2 : grownCap w n 0 3 ≤ 9223372036854775807 := by
    have := grownCap_le_maxLen w n 0 3 (by unfold maxLen; omega)
    unfold maxLen at this
    omega
  obtain ⟨G, hG⟩ : ∃ G, G = grownCap w n 0 3 := ⟨_, rfl⟩
  rw [← hG] at hrz hG1 hG2
  clear hG hi hz0 hz1 hz2
  go_enter Try.func109, Try.ntmps109
  go_wp2_with (at_builtin; refine Lib.wpList_append_run _ rfl _ _ _ _ rfl _ _ rfl rfl _ _ (hrz _) ?_)
  go_ret
  refine ⟨_, rfl, ⟨by simp, .inr ⟨w.heap.size, G, _, rfl, Nat.le_refl _, heap_alloc_new _ _, Nat.zero_le _, by unfold maxLen; omega, ?_, by simp⟩⟩, up_drew (up_alloc up0 _), w.heap.size, G, rfl, Nat.le_refl _⟩
  simp [Builtin.zeroCells]
  omega

theorem flat_ic (l : List Int) : l.flatMap ic = l.map iv := by
  induction l with
  | nil => rfl
  | cons a l ih => rw [List.flatMap_cons, ih]; rfl
theorem ints_of_own {w : World} {base n : Nat} {v : Value} {l : List Int} (h : w.ownsRow base 3 1 v n (l.map iv)) (hn : n = l.length) (h1 : l.length ≤ 1000) : IntsAt w v l :=
  RowsAt.of_ownM (fun _ => rfl) (by rw [flat_ic]; exact h) hn h1

set_option maxRecDepth 100000 in
set_option maxHeartbeats 4000000 in
theorem Concat_any (g : Nat) (va vb : Value) (la lb : List Int) (w : World) (hg : Box w g 23 #[va, vb]) (hla : IntsAt w va la) (hlb : IntsAt w vb lb) (h1 : 1 ≤ la.length + lb.length) (h2 : la.length + lb.length ≤ 1000) :
    Calls Try.prog 89 #[.slice (some ⟨g, 0, none⟩) 2 2] w fun e w' => ∃ v, e = .returned v ∧ w'.ownsRow w.heap.size 3 1 v (la.length + lb.length) ((la ++ lb).map iv) ∧ Below w.heap.size w w' := by
  obtain ⟨i0, hi, hz0, hz1, hz2⟩ := info_parts int_info
  obtain ⟨_, Aa, ca, rfl, _, _⟩ := hla.form
  obtain ⟨_, Ab, cb, rfl, _, _⟩ := hlb.form
  have HA := Lib.hid hla
  have HB := Lib.hid hlb
  have HG := Lib.hid hg
  have cg := fun i => hg.cell i
  have lg := hg.lt
  clear hla hlb hg
  go_enter Try.func89, Try.ntmps89
  go_wp2_with fail
  go_loop [3, 11] (fun s i => (s = .int .i64 0 ∧ i = .int .i64 0) ∨ (s = .int .i64 la.length ∧ i = .int .i64 1) ∨ (s = .int .i64 ((la.length + lb.length : Nat) : Int) ∧ i = .int .i64 2)) (fun _ i => 2 - (intOf i).toNat)
  case atStart => exact .inl ⟨rfl, rfl⟩
  case round =>
    rcases hrel with ⟨rfl, rfl⟩ | ⟨rfl, rfl⟩ | ⟨rfl, rfl⟩
    · go_wp2_with fail
      exact ⟨.inr (.inl ⟨by simp, rfl⟩), by simp [intOf]⟩
    · have hw : IntKind.i64.wrap ((la.length : Int) + (lb.length : Int)) = ((la.length + lb.length : Nat) : Int) := by rw [wrapK_in _ 2000 (by omega) (by omega)]; omega
      have hw' : wrap64 ((la.length : Int) + (lb.length : Int)) = ((la.length + lb.length : Nat) : Int) := by rw [wrap_in _ 2000 (by omega) (by omega)]; omega
      go_wp2_with fail
      exact ⟨.inr (.inr ⟨by first | rfl | simp, rfl⟩), by simp [intOf]⟩
    · clear cg
      have hn0 : ¬ ((la.length + lb.length : Nat) : Int) < 0 := by omega
      go_wp2_with (go_at_call 109; refine (Grow_any (la.length + lb.length) _ h1 h2).mono ?_; rintro e w1 ⟨v0, rfl, hown0, hB, g0, c0, rfl, hg0⟩)
      go_loopw [6, 27] (fun v i wr => ((i = .int .i64 0 ∧ wr.ownsRow w.heap.size 3 1 v 0 []) ∨ (i = .int .i64 1 ∧ wr.ownsRow w.heap.size 3 1 v la.length (la.map iv)) ∨ (i = .int .i64 2 ∧ wr.ownsRow w.heap.size 3 1 v (la.length + lb.length) ((la ++ lb).map iv))) ∧ Below w.heap.size w wr) (fun _ i _ => 2 - (intOf i).toNat)
      case atStart => exact ⟨.inl ⟨rfl, hown0⟩, hB⟩
      case round =>
        clear hown0 hB
        obtain ⟨hrel, hB⟩ := hrel
        have bg := HG.out.kept hB
        have cg := fun i => bg.cell i
        have lg := bg.lt
        rcases hrel with ⟨rfl, hown⟩ | ⟨rfl, hown⟩ | ⟨rfl, hown⟩
        · go_wp2_with (at_builtin; refine wpList_append_rows rfl (.tmp 31) (.tmp 32) 23 rfl w.heap.size 3 i0 _ 1 8 Try.underlying23 hi hz0 hz1 hz2 rfl (by decide) _ _ _ rfl hown ic la _ rfl (HA.out.kept hB) (fun _ => rfl) (by simp [ic, Value.oneCell']) (by unfold maxLen; omega) (by omega) hB.size ?_; intro v' w' hown' hgrow _)
          rw [flat_ic, List.nil_append, Nat.zero_add] at hown'
          exact ⟨⟨.inr (.inl ⟨rfl, hown'⟩), hB.grown hgrow hB.size fun k hk => (hown.lt k hk).1⟩, by simp [intOf]⟩
        · go_wp2_with (at_builtin; refine wpList_append_rows rfl (.tmp 31) (.tmp 32) 23 rfl w.heap.size 3 i0 _ 1 8 Try.underlying23 hi hz0 hz1 hz2 rfl (by decide) _ _ _ rfl hown ic lb _ rfl (HB.out.kept hB) (fun _ => rfl) (by simp [ic, Value.oneCell']) (by unfold maxLen; omega) (by omega) hB.size ?_; intro v' w' hown' hgrow _)
          rw [flat_ic, ← List.map_append] at hown'
          exact ⟨⟨.inr (.inr ⟨rfl, hown'⟩), hB.grown hgrow hB.size fun k hk => (hown.lt k hk).1⟩, by simp [intOf]⟩
        · go_wp2_with fail
          go_ret
          exact ⟨_, rfl, hown, hB⟩

end Go.Proofs.Ytkhfkmfofhnmdaa
