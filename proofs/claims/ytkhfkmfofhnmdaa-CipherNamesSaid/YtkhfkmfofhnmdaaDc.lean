/-
  WALKS of the laws' Same, book, early. Conditions: lists have at most 1000 elements.
-/
import Derived.Test.YtkhfkmfofhnmdaaDb
namespace Go.Proofs.Ytkhfkmfofhnmdaa
open Go.RowKit Go.Shelf
attribute [local go_sem] Oper.semAt_some

theorem take_succ_eq {l m : List Int} {k : Nat} {x : Int} (h : l.take k = m.take k) (hx : l[k]? = some x) (hy : m[k]? = some x) : l.take (k + 1) = m.take (k + 1) := by
  rw [List.take_add_one, List.take_add_one, h, hx, hy]

set_option maxRecDepth 100000 in
set_option maxHeartbeats 1000000 in
theorem same_any (v u : Value) (l m : List Int) (w : World) (hl : IntsAt w v l) (hm : IntsAt w u m) :
    Calls Try.prog 26 #[v, u] w fun e w' => e = .returned (.bool (decide (l = m))) ∧ Below w.heap.size w w' := by
  obtain ⟨h1, A1, c1, rfl, _, _⟩ := hl.form
  obtain ⟨h2, A2, c2, rfl, _, _⟩ := hm.form
  have HL := Lib.hid hl
  have HM := Lib.hid hm
  clear hl hm
  go_enter Try.func26, Try.ntmps26
  by_cases hne : l.length = m.length
  case neg =>
    have hne' : ((l.length : Int) == (m.length : Int)) = false := by rw [beq_eq_false_iff_ne]; omega
    have hf : decide (l = m) = false := by rw [decide_eq_false_iff_not]; exact fun e => hne (by rw [e])
    rw [hf]
    go_wp2_with fail
    go_ret
    exact ⟨rfl, up0⟩
  have hne' : ((l.length : Int) == (m.length : Int)) = true := by rw [beq_iff_eq]; omega
  have Hne := Lib.hid hne
  go_wp2_with fail
  go_loopw [5] (fun i wr => ∃ k : Nat, k ≤ l.length ∧ i = .int .i64 k ∧ l.take k = m.take k ∧ Below w.heap.size w wr) (fun i _ => l.length - (intOf i).toNat)
  case atStart => exact ⟨0, by omega, rfl, rfl, up0⟩
  case round =>
    obtain ⟨k, hk, rfl, heq, hB⟩ := hrel
    have HE := Lib.hid heq
    clear heq
    by_cases hlt : k < l.length
    · obtain ⟨x, hx⟩ : ∃ x, l[k]? = some x := ⟨_, List.getElem?_eq_getElem hlt⟩
      obtain ⟨y, hy⟩ : ∃ y, m[k]? = some y := ⟨_, List.getElem?_eq_getElem (by rw [← Hne.out]; exact hlt)⟩
      obtain ⟨b1, o1, rfl, _, hc1⟩ := (HL.out.kept hB).at rfl hx
      obtain ⟨b2, o2, rfl, _, hc2⟩ := (HM.out.kept hB).at rfl hy
      have q1 : wr.cell? ⟨b1, o1 + k, none⟩ = some (.int .i64 x) := by simpa using hc1 0 _ rfl
      have q2 : wr.cell? ⟨b2, o2 + k, none⟩ = some (.int .i64 y) := by simpa using hc2 0 _ rfl
      have hlt2 : k < m.length := by rw [← Hne.out]; exact hlt
      have HX := Lib.hid hx
      have HY := Lib.hid hy
      clear hc1 hc2 hx hy hne hne'
      by_cases hxy : x = y
      · subst hxy
        go_wp2_with fail
        go_region
        go_wp2_with fail
        go_roundw
        case rel => exact ⟨k + 1, by omega, by go_num, take_succ_eq HE.out HX.out HY.out, up_drew hB⟩
        case measure => simp [intOf]; omega
      · have hxy' : (x == y) = false := by rw [beq_eq_false_iff_ne]; exact hxy
        have hf : decide (l = m) = false := by
          rw [decide_eq_false_iff_not]
          intro e
          have a := HX.out
          rw [e, HY.out] at a
          exact hxy (Option.some.inj a).symm
        go_wp2_with fail
        go_region
        go_wp2_with fail
        go_ret
        exact ⟨by rw [hf]; rfl, up_drew hB⟩
    · have hf : decide (l = m) = true := by
        rw [decide_eq_true_iff]
        have a := HE.out
        rw [List.take_of_length_le (by omega), List.take_of_length_le (by have := Hne.out; omega)] at a
        exact a
      go_wp2_with fail
      go_ret
      exact ⟨by rw [hf]; rfl, hB⟩

/-- The book that the law keeps. -/
def bk0 : Bk := ⟨13, 10, [⟨2, 3, 1⟩, ⟨5, 0, 0⟩], [0, 0, 1]⟩
theorem keys0 {w : World} {g : Nat} (h : Box w g 78 #[iv 2, iv 3, iv 1, iv 5, iv 0, iv 0]) : RowsAt w (.slice (some ⟨g, 0, none⟩) 2 2) 3 Ky.cells bk0.ks :=
  ⟨by decide, _, _, rfl, by decide, by decide, fun _ => ⟨g, 0, rfl, h.lt, fun i x hx j u hu => by
    rw [h.cell]
    rcases i with _ | _ | i
    · obtain rfl : x = ⟨2, 3, 1⟩ := by simpa [bk0] using hx.symm
      rcases j with _ | _ | _ | j
      · obtain rfl : u = iv 2 := by simpa [Ky.cells] using hu.symm
        rfl
      · obtain rfl : u = iv 3 := by simpa [Ky.cells] using hu.symm
        rfl
      · obtain rfl : u = iv 1 := by simpa [Ky.cells] using hu.symm
        rfl
      · simp [Ky.cells] at hu
    · obtain rfl : x = ⟨5, 0, 0⟩ := by simpa [bk0] using hx.symm
      rcases j with _ | _ | _ | j
      · obtain rfl : u = iv 5 := by simpa [Ky.cells] using hu.symm
        rfl
      · obtain rfl : u = iv 0 := by simpa [Ky.cells] using hu.symm
        rfl
      · obtain rfl : u = iv 0 := by simpa [Ky.cells] using hu.symm
        rfl
      · simp [Ky.cells] at hu
    · simp [bk0] at hx⟩⟩
theorem loss0 {w : World} {g : Nat} (h : Box w g 109 #[iv 0, iv 1]) : RowsAt w (.slice (some ⟨g, 0, none⟩) 1 1) 2 Ls.cells [⟨0, 1⟩] :=
  ⟨by decide, _, _, rfl, by decide, by decide, fun _ => ⟨g, 0, rfl, h.lt, fun i x hx j u hu => by
    rw [h.cell]
    rcases i with _ | i
    · obtain rfl : x = ⟨0, 1⟩ := by simpa using hx.symm
      rcases j with _ | _ | j
      · obtain rfl : u = iv 0 := by simpa [Ls.cells] using hu.symm
        rfl
      · obtain rfl : u = iv 1 := by simpa [Ls.cells] using hu.symm
        rfl
      · simp [Ls.cells] at hu
    · simp at hx⟩⟩
set_option maxHeartbeats 400000 in
theorem book0_any (w : World) : Calls Try.prog 45 #[] w fun e w' => ∃ v1 v2, e = .returned (bookV bk0 v1 v2) ∧ BookAt w' v1 v2 bk0 ∧ Below w.heap.size w w' := by
  go_enter Try.func45, Try.ntmps45
  go_wp2_with fail
  have N1 := ((Box.new (w := w) (t := 32) (cs := #[iv 13, iv 10, .slice (some ⟨w.heap.size + 1, 0, none⟩) 2 2, .slice (some ⟨w.heap.size + 1 + 1, 0, none⟩) 3 3]) rfl).alloc (.cells #[iv 2, iv 3, iv 1, iv 5, iv 0, iv 0] 78)).alloc (.cells #[iv 0, iv 0, iv 1] 3)
  have N2 := (Box.new (w := w.alloc (.cells #[iv 13, iv 10, .slice (some ⟨w.heap.size + 1, 0, none⟩) 2 2, .slice (some ⟨w.heap.size + 1 + 1, 0, none⟩) 3 3] 32)) (g := w.heap.size + 1) (t := 78) (cs := #[iv 2, iv 3, iv 1, iv 5, iv 0, iv 0]) (by simp)).alloc (.cells #[iv 0, iv 0, iv 1] 3)
  have N3 := Box.new (w := (w.alloc (.cells #[iv 13, iv 10, .slice (some ⟨w.heap.size + 1, 0, none⟩) 2 2, .slice (some ⟨w.heap.size + 1 + 1, 0, none⟩) 3 3] 32)).alloc (.cells #[iv 2, iv 3, iv 1, iv 5, iv 0, iv 0] 78)) (g := w.heap.size + 1 + 1) (t := 3) (cs := #[iv 0, iv 0, iv 1]) (by simp)
  refine bodyPost_ret (v := .agg #[iv 13, iv 10, .slice (some ⟨w.heap.size + 1, 0, none⟩) 2 2, .slice (some ⟨w.heap.size + 1 + 1, 0, none⟩) 3 3]) (by
    have cN := fun i => N1.cell i
    simp [results, Try.results45, go_sem, cN]) rfl ⟨_, _, rfl, ⟨keys0 N2, ints_box (l := [0, 0, 1]) N3 (by decide)⟩, up_alloc (up_alloc (up_alloc up0 _) _) _⟩
set_option maxHeartbeats 400000 in
theorem early0_any (w : World) : Calls Try.prog 46 #[] w fun e w' => ∃ v, e = .returned v ∧ RowsAt w' v 2 Ls.cells [⟨0, 1⟩] ∧ Below w.heap.size w w' := by
  go_enter Try.func46, Try.ntmps46
  go_wp2_with fail
  go_ret
  exact ⟨_, rfl, loss0 (Box.new rfl), up_alloc up0 _⟩

end Go.Proofs.Ytkhfkmfofhnmdaa
