/-
  WALKS of the reference's Had and of the law's Losses. Conditions: lists have at most 1000 elements.
-/
import Derived.Test.YtkhfkmfofhnmdaaDb
namespace Go.Proofs.Ytkhfkmfofhnmdaa
open Go.RowKit Go.Shelf
attribute [local go_sem] Oper.semAt_some

/-- Others have a key on a day. -/
def hadB (ls : List Ls) (key day : Int) : Bool := ls.any fun x => x.k == key && decide (x.d ≤ day)
theorem any_no {α : Type} {l : List α} {p : α → Bool} {k : Nat} {x : α} (h : ∀ y ∈ l.take k, p y = false) (hx : l[k]? = some x) (hp : p x = false) : ∀ y ∈ l.take (k + 1), p y = false := fun y hy => by
  rw [List.take_add_one, hx] at hy
  rcases List.mem_append.1 hy with h1 | h1
  · exact h y h1
  · obtain rfl : y = x := by simpa using h1
    exact hp
set_option maxRecDepth 100000 in
set_option maxHeartbeats 1000000 in
theorem Had_any (v : Value) (ls : List Ls) (key day : Int) (w : World) (hl : RowsAt w v 2 Ls.cells ls) :
    Calls Try.prog 70 #[v, iv key, iv day] w fun e w' => e = .returned (.bool (hadB ls key day)) ∧ Below w.heap.size w w' := by
  obtain ⟨_, A1, c1, rfl, _, _⟩ := hl.form
  have HL := Lib.hid hl
  clear hl
  go_enter Try.func70, Try.ntmps70
  go_wp2_with fail
  go_loopw [7] (fun i wr => ∃ k : Nat, k ≤ ls.length ∧ i = .int .i64 k ∧ Hid (∀ x ∈ ls.take k, (x.k == key && decide (x.d ≤ day)) = false) ∧ Below w.heap.size w wr) (fun i _ => ls.length - (intOf i).toNat)
  case atStart => exact ⟨0, by omega, rfl, by simp [Hid], up0⟩
  case round =>
    obtain ⟨k, hk, rfl, Hno, hB⟩ := hrel
    by_cases hlt : k < ls.length
    · obtain ⟨x, hx⟩ : ∃ x, ls[k]? = some x := ⟨_, List.getElem?_eq_getElem hlt⟩
      obtain ⟨b1, o1, rfl, _, hc⟩ := (HL.out.kept hB).at rfl hx
      have q0 : wr.cell? ⟨b1, o1 + k * 2, none⟩ = some (.int .i64 x.k) := hc 0 _ rfl
      have q1 : wr.cell? ⟨b1, o1 + k * 2 + 1, none⟩ = some (.int .i64 x.d) := hc 1 _ rfl
      have Hx := Lib.hid hx
      clear hc hx
      by_cases e1 : x.k = key
      · have d1 : (x.k == key) = true := by rw [beq_iff_eq]; exact e1
        by_cases e2 : x.d ≤ day
        · have d2 : decide (x.d ≤ day) = true := decide_eq_true e2
          have Hf := Lib.hid (show hadB ls key day = true from List.any_eq_true.2 ⟨x, List.mem_of_getElem? Hx.out, by rw [d1, d2]; rfl⟩)
          clear e1
          go_wp2_with fail
          go_ret
          exact ⟨by rw [Hf.out]; rfl, hB⟩
        · have d2 : decide (x.d ≤ day) = false := decide_eq_false e2
          have Hp := Lib.hid (show (x.k == key && decide (x.d ≤ day)) = false by rw [d2]; simp)
          clear e1
          go_wp2_with fail
          go_roundw
          case rel => exact ⟨k + 1, by omega, by go_num, any_no Hno.out Hx.out Hp.out, hB⟩
          case measure => simp [intOf]; omega
      · have d1 : (x.k == key) = false := by rw [beq_eq_false_iff_ne]; exact e1
        have Hp := Lib.hid (show (x.k == key && decide (x.d ≤ day)) = false by rw [d1]; rfl)
        go_wp2_with fail
        go_roundw
        case rel => exact ⟨k + 1, by omega, by go_num, any_no Hno.out Hx.out Hp.out, hB⟩
        case measure => simp [intOf]; omega
    · have Hf := Lib.hid (show hadB ls key day = false by
        unfold hadB
        rw [List.any_eq_false]
        intro y hy
        have a := Hno.out
        rw [List.take_of_length_le (by omega)] at a
        rw [a y hy]
        simp)
      go_wp2_with fail
      go_ret
      exact ⟨by rw [Hf.out]; rfl, hB⟩

theorem loss_info : (Try.prog.info? 109).map (fun i => (i.zero, i.size, i.bytes)) = some (some (.agg #[iv 0, iv 0]), 2, 16) := by kernel_rfl
set_option maxRecDepth 100000 in
set_option maxHeartbeats 1000000 in
theorem Losses_any (v : Value) (ls : List Ls) (w : World) (hl : RowsAt w v 2 Ls.cells ls) :
    Calls Try.prog 31 #[v] w fun e w' => ∃ u, e = .returned u ∧ RowsAt w' u 2 Ls.cells ls ∧ Below w.heap.size w w' := by
  obtain ⟨i1, hi1, hz10, hz11, hz12⟩ := info_parts loss_info
  obtain ⟨hn, A1, c1, rfl, _, _⟩ := hl.form
  have HL := Lib.hid hl
  clear hl
  go_enter Try.func31, Try.ntmps31
  go_wp2_with fail
  go_loopw [3, 4] (fun u i wr => ∃ k : Nat, k ≤ ls.length ∧ i = .int .i64 k ∧ Hid (wr.ownsRow w.heap.size 109 2 u k ((ls.take k).flatMap Ls.cells)) ∧ Hid (Below w.heap.size w wr)) (fun _ i _ => ls.length - (intOf i).toNat)
  case atStart => exact ⟨0, by omega, rfl, World.ownsRow_nil _ _ _ _, up0⟩
  case round =>
    obtain ⟨k, hk, rfl, HO, HB⟩ := hrel
    have hszB := HB.out.size
    have k0 : (0 : Int) ≤ (k : Int) := by omega
    by_cases hlt : k < ls.length
    · obtain ⟨x, hx⟩ : ∃ x, ls[k]? = some x := ⟨_, List.getElem?_eq_getElem hlt⟩
      have HR := Lib.hid (HL.out.kept HB.out)
      obtain ⟨b1, o1, rfl, _, _⟩ := HR.out.at rfl hx
      have k1 : (k : Int) < (ls.length : Int) := by omega
      have Hx := Lib.hid hx
      obtain ⟨Au, pu, rfl⟩ := own_form' HO.out
      clear hx
      go_wp2_with fail
      apply wp_region_by 13 [(Fact.eq _), (Fact.eq _), (Fact.eq _), (Fact.eq _), (Fact.eq _), (Fact.eq _), (Fact.eq _), (Fact.eq _), (Fact.eq _), (Fact.eq _), (Fact.eq _), (Fact.eq _), (Fact.sl 1 109 #[iv x.k, iv x.d])]
      case hm => kernel_rfl
      case hB => kernel_rfl
      case hA => (intro vs; simp only [List.take_succ_cons, List.take_zero, putAll, if_true, Act.put, List.setIfInBounds_toArray, List.set_cons_zero, List.set_cons_succ]; exact rfl)
      case hstep =>
        intro vs
        refine And.intro (fun w hw hd => ?_) ?_
        · refine ite_yes rfl ?_
          simp only [Gives]
          go_simp
          exact ⟨Below.refl _ _, rfl, fun h => by cases h⟩
        refine And.intro (fun w hw hd => ?_) ?_
        · refine ite_yes rfl ?_
          simp only [Gives]
          go_simp
          exact ⟨Below.refl _ _, rfl, fun h => by cases h⟩
        refine And.intro (fun w hw hd => ?_) ?_
        · refine ite_yes rfl ?_
          simp only [Gives]
          go_simp
          exact ⟨Below.refl _ _, rfl, fun h => by cases h⟩
        refine And.intro (fun w hw hd => ?_) ?_
        · have d1 := hd 1 (by decide) rfl
          change vs 1 = _ at d1
          have d2 := hd 2 (by decide) rfl
          change vs 2 = _ at d2
          refine ite_yes rfl ?_
          simp only [Gives]
          go_simp
          exact ⟨Below.refl _ _, rfl, fun h => by cases h⟩
        refine And.intro (fun w hw hd => ?_) ?_
        · have d3 := hd 3 (by decide) rfl
          change vs 3 = _ at d3
          refine ite_yes rfl ?_
          simp only [Gives]
          go_simp
          exact ⟨Below.refl _ _, rfl, fun h => by cases h⟩
        refine And.intro (fun w hw hd => ?_) ?_
        · have d4 := hd 4 (by decide) rfl
          change vs 4 = _ at d4
          refine ite_yes rfl ?_
          have q0 : w.cell? ⟨b1, o1 + k * 2, none⟩ = some (.int .i64 x.k) := (HR.out.kept hw).cellAt Hx.out (j := 0) rfl
          have q1 : w.cell? ⟨b1, o1 + k * 2 + 1, none⟩ = some (.int .i64 x.d) := (HR.out.kept hw).cellAt Hx.out (j := 1) rfl
          simp only [Gives]
          go_simp
          exact ⟨Below.refl _ _, rfl, fun h => by cases h⟩
        refine And.intro (fun w hw hd => ?_) ?_
        · refine ite_yes rfl ?_
          simp only [Gives]
          go_simp
          exact ⟨Below.refl _ _, rfl, fun h => by cases h⟩
        refine And.intro (fun w hw hd => ?_) ?_
        · refine ite_yes rfl ?_
          simp only [Gives]
          go_simp
          exact ⟨Below.refl _ _, rfl, fun h => by cases h⟩
        refine And.intro (fun w hw hd => ?_) ?_
        · have d6 := hd 6 (by decide) rfl
          change vs 6 = _ at d6
          have d7 := hd 7 (by decide) rfl
          change vs 7 = _ at d7
          refine ite_yes rfl ?_
          simp only [Gives]
          go_simp
          exact ⟨Below.refl _ _, rfl, fun h => by cases h⟩
        refine And.intro (fun w hw hd => ?_) ?_
        · have d8 := hd 8 (by decide) rfl
          change vs 8 = _ at d8
          refine ite_yes rfl ?_
          simp only [Gives]
          go_simp
          exact ⟨Below.refl _ _, rfl, fun h => by cases h⟩
        refine And.intro (fun w hw hd => ?_) ?_
        · have d9 := hd 9 (by decide) rfl
          change vs 9 = _ at d9
          refine ite_yes rfl ?_
          have q0 : w.cell? ⟨b1, o1 + k * 2, none⟩ = some (.int .i64 x.k) := (HR.out.kept hw).cellAt Hx.out (j := 0) rfl
          have q1 : w.cell? ⟨b1, o1 + k * 2 + 1, none⟩ = some (.int .i64 x.d) := (HR.out.kept hw).cellAt Hx.out (j := 1) rfl
          simp only [Gives]
          go_simp
          exact ⟨Below.refl _ _, rfl, fun h => by cases h⟩
        refine And.intro (fun w hw hd => ?_) ?_
        · have d5 := hd 5 (by decide) rfl
          change vs 5 = _ at d5
          have d10 := hd 10 (by decide) rfl
          change vs 10 = _ at d10
          refine ite_yes rfl ?_
          simp only [Gives]
          go_simp
          exact ⟨Below.refl _ _, rfl, fun h => by cases h⟩
        refine And.intro (fun w hw hd => ?_) ?_
        · have d11 := hd 11 (by decide) rfl
          change vs 11 = _ at d11
          refine ite_yes rfl ?_
          simp only [Gives]
          go_simp
          exact ⟨(Below.refl _ _).alloc (Nat.le_refl _) _, ⟨_, rfl, Box.new rfl⟩, fun h => by cases h⟩
        exact trivial
      intro vs wt hw hd hne hlo
      have d0 := hd 0 (by decide)
      change vs 0 = _ at d0
      have d1 := hd 1 (by decide)
      change vs 1 = _ at d1
      have d2 := hd 2 (by decide)
      change vs 2 = _ at d2
      have d3 := hd 3 (by decide)
      change vs 3 = _ at d3
      have d4 := hd 4 (by decide)
      change vs 4 = _ at d4
      have d5 := hd 5 (by decide)
      change vs 5 = _ at d5
      have d6 := hd 6 (by decide)
      change vs 6 = _ at d6
      have d7 := hd 7 (by decide)
      change vs 7 = _ at d7
      have d8 := hd 8 (by decide)
      change vs 8 = _ at d8
      have d9 := hd 9 (by decide)
      change vs 9 = _ at d9
      have d10 := hd 10 (by decide)
      change vs 10 = _ at d10
      have d11 := hd 11 (by decide)
      change vs 11 = _ at d11
      have d12 := hd 12 (by decide)
      obtain ⟨m8, d12, M8⟩ := d12
      simp only [d0, d1, d2, d3, d4, d5, d6, d7, d8, d9, d10, d11, List.drop_succ_cons, List.drop_zero]
      clear hd hne hlo d0 d1 d2 d3 d4 d5 d6 d7 d8 d9 d10 d11
      simp only [Nat.zero_add, Nat.reduceAdd, d12]
      clear d12
      have HO := Lib.hid (own_below HO.out hw)
      have hszw := hw.size
      go_wp2_with (at_builtin; refine wpList_append_own_at _ rfl (.tmp 11) (.tmp 23) 49 rfl w.heap.size 109 i1 (.agg #[iv 0, iv 0]) 2 16 Try.underlying49 hi1 hz10 hz11 hz12 rfl (by decide) _ _ _ rfl HO.out ⟨m8, 0, none⟩ 1 1 [iv x.k, iv x.d] rfl rfl (box_newsM M8) (by simp [Value.oneCell']) (by unfold maxLen; omega) (by omega) (by omega) ?_; intro v' w2 hown' hgrow _ _)
      go_roundw
      case rel =>
        refine ⟨k + 1, by omega, by go_num, ?_, (up_later HB.out hw).grown hgrow (by omega) fun g e => (HO.out.lt g e).1⟩
        rw [take_flat Hx.out]
        exact hown'
      case measure => simp [intOf]; omega
    · obtain rfl : k = ls.length := by omega
      go_wp2_with fail
      go_ret
      have ho := HO.out
      rw [List.take_length] at ho
      exact ⟨_, rfl, RowsAt.of_ownM (fun _ => rfl) ho rfl hn, HB.out⟩
end Go.Proofs.Ytkhfkmfofhnmdaa
