/-
  WALKS of slices.Grow (of the nil slice) and slices.Concat (of two slices of two numbers). Conditions: as the theorems' premises say.
-/
import Derived.Test.YtojbdmdjepgpjaaCk
import Derived.Lib.AppendZerosOnto
import Derived.Lib.SliceRun
import Derived.OwnWalk
import Derived.Maps.AppendAt
import Derived.ChangeKeysEq
namespace Go.Proofs.Ytojbdmdjepgpjaa
open Go.RowKit

theorem int_info : (Try.prog.info? 3).map (fun i => (i.zero, i.size, i.bytes)) = some (some (.int .i64 0), 1, 8) := by kernel_rfl

def GivesOwn (w : World) (e : Ending) (w' : World) : Prop := ∃ v, e = .returned v ∧ w'.ownsRow w.heap.size 3 1 v 0 [] ∧ Below w.heap.size w w' ∧ ∃ g cap, v = .slice (some ⟨g, 0, none⟩) 0 cap ∧ w.heap.size ≤ g

set_option maxRecDepth 100000 in
set_option maxHeartbeats 2000000 in
theorem Grow_any (n : Nat) (w : World) (h1 : 1 ≤ n) (h2 : n ≤ 1000) : Calls Try.prog 107 #[.slice none 0 0, .int .i64 n] w (GivesOwn w) := by
  obtain ⟨i0, hi, hz0, hz1, hz2⟩ := info_parts int_info
  have hrz : ∀ ty, (Builtin.append_ #[41, 3] ty #[.slice none 0 0, .int .i64 (n : Int)]).run Try.prog w =
      .ok (.slice (some ⟨w.heap.size, 0, none⟩) n (grownCap w n 0 3)) (w.drew.alloc (.cells (Builtin.zeroCells (Value.int .i64 0).cells n ++ Builtin.zeroCells (Value.int .i64 0).cells (grownCap w n 0 3 - n)) 3)) := fun ty => by
    have h := Lib.run_append_grow_zeros (P := Try.prog) w 41 3 ty 3 i0 (.int .i64 0) .i64 .i64 Try.underlying41 Try.underlying3 hi hz0 none 0 0 [] (by rw [hz1]; exact run_firstCells_none w.drew 1 0 0 0) n (by omega) (by omega) (by omega) (by omega)
      (by rw [hz2]; omega) (by rw [hz2]; exact growslice_fits (by omega) (by omega))
    simpa using h
  have hG1 : n ≤ grownCap w n 0 3 := grownCap_ge w _ _ _
  have hG2 : grownCap w n 0 3 ≤ 9223372036854775807 := by
    have := grownCap_le_maxLen w n 0 3 (by unfold maxLen; omega)
    unfold maxLen at this
    omega
  obtain ⟨G, hG⟩ : ∃ G, G = grownCap w n 0 3 := ⟨_, rfl⟩
  rw [← hG] at hrz hG1 hG2
  clear hG hi hz0 hz1 hz2
  go_enter Try.func107, Try.ntmps107
  go_wp2_with (at_builtin; refine Lib.wpList_append_run _ rfl _ _ _ _ rfl _ _ rfl rfl _ _ (hrz _) ?_)
  go_ret
  refine ⟨_, rfl, ⟨by simp, .inr ⟨w.heap.size, G, _, rfl, Nat.le_refl _, heap_alloc_new _ _, Nat.zero_le _, by unfold maxLen; omega, ?_, by simp⟩⟩, up_drew (up_alloc up0 _), w.heap.size, G, rfl, Nat.le_refl _⟩
  simp [Builtin.zeroCells]
  omega

theorem box_news {w : World} {g : Nat} {t : TypeId} {a b : Value} (h : Box w g t #[a, b]) : ∀ j u, [a, b][j]? = some u → w.cell? ((⟨g, 0, none⟩ : Addr).add j) = some u := by
  intro j u hu
  have hc := h.cell j
  have e : (⟨g, 0, none⟩ : Addr).add j = ⟨g, j, none⟩ := by
    rcases j with _ | j <;> simp [Addr.add]
  rw [e, hc]
  simpa using hu

def GivesRow (l : List Int) (w : World) (e : Ending) (w' : World) : Prop := ∃ v, e = .returned v ∧ RowsAt w' v 1 (fun n => [iv n]) l ∧ Below w.heap.size w w'

theorem RowsAt.of_own {w : World} {base e n : Nat} {v : Value} {l : List Int} (h : w.ownsRow base e 1 v n (l.map iv)) (hn : l.length ≤ 1000) : RowsAt w v 1 (fun n => [iv n]) l := by
  have hl : l.length = n := by simpa using h.1
  refine ⟨hn, ?_⟩
  rcases h.2 with ⟨rfl, h0⟩ | ⟨g, cap, cur, rfl, _, hg, hnc, hcm, hsz, htk⟩
  · subst h0
    have : l = [] := List.eq_nil_of_length_eq_zero hl
    subst this
    exact ⟨none, 0, rfl, by simp, by omega, fun h => absurd rfl h⟩
  · refine ⟨_, cap, by rw [hl], by omega, by unfold maxLen at hcm; omega, fun _ => ⟨g, 0, rfl, (Array.getElem?_eq_some_iff.1 hg).1, ?_⟩⟩
    intro i x hx j u hu
    have hj : j = 0 := by
      rcases j with _ | j
      · rfl
      · simp at hu
    subst hj
    have hux : u = iv x := by simpa using hu.symm
    subst hux
    have hi : i < l.length := (List.getElem?_eq_some_iff.1 hx).1
    have h1 : (l.map iv)[i]? = some (iv x) := by simp [hx]
    rw [← htk, List.getElem?_take, if_pos (by omega)] at h1
    rw [cell_of_row w g (0 + i * 1 + 0) cur e (0, 0) hg]
    simpa using h1

set_option maxRecDepth 100000 in
set_option maxHeartbeats 2000000 in
theorem Concat_any (b cap g6 g7 t : Nat) (a0 a1 b0 b1 : Int) (w : World) (h0 : w.cell? ⟨b, 0, none⟩ = some (.slice (some ⟨g6, 0, none⟩) 2 2)) (h1 : w.cell? ⟨b, 1, none⟩ = some (.slice (some ⟨g7, 0, none⟩) 2 2)) (hb : b < w.heap.size)
    (B6 : Box w g6 t #[iv a0, iv a1]) (B7 : Box w g7 t #[iv b0, iv b1]) : Calls Try.prog 106 #[.slice (some ⟨b, 0, none⟩) 2 cap] w (GivesRow [a0, a1, b0, b1] w) := by
  obtain ⟨i0, hi, hz0, hz1, hz2⟩ := info_parts int_info
  have h00 := h0
  have h01 := h1
  have B60 := B6
  have B70 := B7
  go_enter Try.func106, Try.ntmps106
  go_wp2
  go_loop [3, 11] (fun s i => (s = .int .i64 0 ∧ i = .int .i64 0) ∨ (s = .int .i64 2 ∧ i = .int .i64 1) ∨ (s = .int .i64 4 ∧ i = .int .i64 2)) (fun _ i => 2 - (intOf i).toNat)
  case atStart => exact .inl ⟨rfl, rfl⟩
  case round =>
    rcases hrel with ⟨rfl, rfl⟩ | ⟨rfl, rfl⟩ | ⟨rfl, rfl⟩
    · go_wp2
      exact ⟨.inr (.inl ⟨rfl, rfl⟩), by simp [intOf]⟩
    · go_wp2
      exact ⟨.inr (.inr ⟨rfl, rfl⟩), by simp [intOf]⟩
    · go_wp2_with (go_at_call 107; refine (Grow_any 4 _ (by omega) (by omega)).mono ?_; rintro e w1 ⟨v0, rfl, hown0, hB, g0, c0, rfl, hg0⟩)
      have B6 := B6.kept hB
      have B7 := B7.kept hB
      have h0 := (hB.cell (p := ⟨b, 0, none⟩) hb).trans h0
      have h1 := (hB.cell (p := ⟨b, 1, none⟩) hb).trans h1
      go_loopw [6, 27] (fun v i wr => ((i = .int .i64 0 ∧ wr.ownsRow w.heap.size 3 1 v 0 []) ∨ (i = .int .i64 1 ∧ wr.ownsRow w.heap.size 3 1 v 2 [iv a0, iv a1]) ∨ (i = .int .i64 2 ∧ wr.ownsRow w.heap.size 3 1 v 4 [iv a0, iv a1, iv b0, iv b1])) ∧ Below w.heap.size w wr) (fun _ i _ => 2 - (intOf i).toNat)
      case atStart => exact ⟨.inl ⟨rfl, hown0⟩, hB⟩
      case round =>
        obtain ⟨hrel, hB⟩ := hrel
        have hl6 := B6.lt
        have hl7 := B7.lt
        have h0 := (hB.cell (p := ⟨b, 0, none⟩) hb).trans h00
        have h1 := (hB.cell (p := ⟨b, 1, none⟩) hb).trans h01
        have C6 := B60.kept hB
        have C7 := B70.kept hB
        rcases hrel with ⟨rfl, hown⟩ | ⟨rfl, hown⟩ | ⟨rfl, hown⟩
        · go_wp2_with (at_builtin; refine wpList_append_own _ rfl (.tmp 31) (.tmp 32) 41 rfl w.heap.size 3 i0 _ 1 8 Try.underlying41 hi hz0 hz1 hz2 rfl (by decide) _ _ _ rfl hown ⟨g6, 0, none⟩ 2 2 [iv a0, iv a1] rfl rfl (box_news C6) (by simp [Value.oneCell']) (by unfold maxLen; omega) (by omega) hB.size ?_; intro v' w' hown' hgrow _)
          exact ⟨⟨.inr (.inl ⟨rfl, hown'⟩), hB.grown hgrow hB.size fun k hk => (hown.lt k hk).1⟩, by simp [intOf]⟩
        · go_wp2_with (at_builtin; refine wpList_append_own _ rfl (.tmp 31) (.tmp 32) 41 rfl w.heap.size 3 i0 _ 1 8 Try.underlying41 hi hz0 hz1 hz2 rfl (by decide) _ _ _ rfl hown ⟨g7, 0, none⟩ 2 2 [iv b0, iv b1] rfl rfl (box_news C7) (by simp [Value.oneCell']) (by unfold maxLen; omega) (by omega) hB.size ?_; intro v' w' hown' hgrow _)
          exact ⟨⟨.inr (.inr ⟨rfl, hown'⟩), hB.grown hgrow hB.size fun k hk => (hown.lt k hk).1⟩, by simp [intOf]⟩
        · go_wp2
          go_ret
          exact ⟨_, rfl, RowsAt.of_own (l := [a0, a1, b0, b1]) hown (by simp), hB⟩

theorem Try.cells3 : Try.prog.cellsOf 3 = 1 := by kernel_rfl
theorem eq_int (d : Nat) (a b : Int) (w : World) : (Op.equalIn (d + 1) 3 (.int .i64 a) (.int .i64 b)).run Try.prog w = .ok (a == b) w := by
  simp [Op.equalIn, run_underlying Try.underlying3]
theorem eq_place' (d : Nat) (a b c d' : Int) (w : World) : (Op.equalIn (d + 1 + 1) 157 (.agg #[iv a, iv b]) (.agg #[iv c, iv d'])).run Try.prog w = .ok (a == c && b == d') w := by
  obtain ⟨i0, hi, hz0, hz1, hz2⟩ := info_parts int_info
  rw [run_equalIn_array w (n := 2) (e := 3) (i := i0) (d + 1) #[iv a, iv b] #[iv c, iv d'] Try.underlying157 hi]
  rw [Try.cells3]
  have p0 : ∀ x y : Int, ∀ w : World, (part 3 #[iv x, iv y] (0 * 1)).run Try.prog w = .ok (iv x) w := fun x y w => by kernel_rfl
  have p1 : ∀ x y : Int, ∀ w : World, (part 3 #[iv x, iv y] (1 * 1)).run Try.prog w = .ok (iv y) w := fun x y w => by kernel_rfl
  show (Op.eqItems (d + 1) 3 1 _ _ [0, 1]).run Try.prog w = _
  simp only [Op.eqItems, Sem.run_bind, p0, Result.andThen_ok, eq_int]
  cases h1 : (a == c)
  · simp [go_sem]
  · simp only [Bool.not_true, Bool.false_eq_true, if_false, Sem.run_bind, p1, Result.andThen_ok, eq_int]
    cases h2 : (b == d') <;> simp [go_sem]
theorem eq_place (a b c d : Int) (w : World) : (Op.equalIn 10000 157 (.agg #[iv a, iv b]) (.agg #[iv c, iv d])).run Try.prog w = .ok (a == c && b == d) w := eq_place' 9998 a b c d w

end Go.Proofs.Ytojbdmdjepgpjaa
