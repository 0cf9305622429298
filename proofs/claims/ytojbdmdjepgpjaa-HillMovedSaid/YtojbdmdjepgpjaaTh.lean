/-
  WALKS of 'three' and 'ints', the laws' helpers.
  WALK of the law's 'within'. Conditions: lists have at most 1000 elements.
-/
import Derived.Test.YtojbdmdjepgpjaaHe
namespace Go.Proofs.Ytojbdmdjepgpjaa
open Go.RowKit

/-- The land of the document's examples, as it lies behind 'three'. -/
structure Three (n : Nat) (top : Int) (w : World) : Prop where
  st : Box w (n + 1) 66 #[iv 10, iv 10, iv 100, iv 1, iv 30, iv 10, iv 200, iv 1, iv 10, iv 30, iv 50, iv 2]
  rg : Box w (n + 2) 68 #[iv 20, iv 5, iv 20, iv 15, iv 0, iv top]
  cl : Box w (n + 3) 70 #[iv 5, iv 20, iv 25, iv 20, iv 0, iv 80, iv 1, iv 2]
  cs : Box w (n + 4) 71 #[.slice none 0 0, .slice (some ⟨n + 3, 0, none⟩) 1 1]
  sn : Box w (n + 5) 91 #[iv 50, iv 0, iv 0, iv 50, iv 0, iv 20, iv (-50), iv 0, iv 30]
theorem Three.kept {n : Nat} {top : Int} {w w' : World} (h : Three n top w) (hb : Below w.heap.size w w') : Three n top w' := ⟨h.st.kept hb, h.rg.kept hb, h.cl.kept hb, h.cs.kept hb, h.sn.kept hb⟩

set_option maxRecDepth 100000 in
set_option maxHeartbeats 1000000 in
theorem three_any (top : Int) (w : World) :
    Calls Try.prog 36 #[.int .i64 top] w fun e w' =>
      e = .returned (.agg #[.slice (some ⟨w.heap.size + 1, 0, none⟩) 3 3, .slice (some ⟨w.heap.size + 2, 0, none⟩) 1 1, .slice (some ⟨w.heap.size + 4, 0, none⟩) 2 2, .slice (some ⟨w.heap.size + 5, 0, none⟩) 3 3]) ∧ Three w.heap.size top w' ∧ Below w.heap.size w w' := by
  go_enter Try.func36, Try.ntmps36
  go_wp2_with fail
  have N := ((((((Box.new (w := w) (t := 37) (cs := #[.slice (some ⟨w.heap.size + 1, 0, none⟩) 3 3, .slice (some ⟨w.heap.size + 1 + 1, 0, none⟩) 1 1, .slice (some ⟨w.heap.size + 1 + 1 + 1 + 1, 0, none⟩) 2 2, .slice (some ⟨w.heap.size + 1 + 1 + 1 + 1 + 1, 0, none⟩) 3 3]) rfl).alloc (.cells #[iv 10, iv 10, iv 100, iv 1, iv 30, iv 10, iv 200, iv 1, iv 10, iv 30, iv 50, iv 2] 66)).alloc
    (.cells #[iv 20, iv 5, iv 20, iv 15, iv 0, iv top] 68)).alloc (.cells #[iv 5, iv 20, iv 25, iv 20, iv 0, iv 80, iv 1, iv 2] 70)).alloc (.cells #[.slice none 0 0, .slice (some ⟨w.heap.size + 1 + 1 + 1, 0, none⟩) 1 1] 71)).alloc (.cells #[iv 50, iv 0, iv 0, iv 50, iv 0, iv 20, iv (-50), iv 0, iv 30] 91))
  refine bodyPost_ret (v := .agg #[.slice (some ⟨w.heap.size + 1, 0, none⟩) 3 3, .slice (some ⟨w.heap.size + 1 + 1, 0, none⟩) 1 1, .slice (some ⟨w.heap.size + 1 + 1 + 1 + 1, 0, none⟩) 2 2, .slice (some ⟨w.heap.size + 1 + 1 + 1 + 1 + 1, 0, none⟩) 3 3]) (by
    have cN := fun i => N.cell i
    simp [results, Try.results36, go_sem, cN]) rfl ⟨rfl, ⟨?_, ?_, ?_, ?_, ?_⟩, up_alloc (up_alloc (up_alloc (up_alloc (up_alloc (up_alloc up0 _) _) _) _) _) _⟩
  · exact ((((Box.new (by simp)).alloc _).alloc _).alloc _).alloc _
  · exact (((Box.new (by simp)).alloc _).alloc _).alloc _
  · exact ((Box.new (by simp)).alloc _).alloc _
  · exact (Box.new (by simp)).alloc _
  · exact Box.new (by simp)

set_option maxRecDepth 100000 in
set_option maxHeartbeats 1000000 in
theorem ints_any (u v : Value) (l m : List Int) (w : World) (hl : RowsAt w u 1 (fun n => [iv n]) l) (hm : RowsAt w v 1 (fun n => [iv n]) m) :
    Calls Try.prog 25 #[u, v] w fun e w' => e = .returned (.bool (l == m)) ∧ Below w.heap.size w w' := by
  obtain ⟨hn1, A1, cap1, rfl, _, _⟩ := hl.form
  obtain ⟨hn2, A2, cap2, rfl, _, _⟩ := hm.form
  by_cases hlen : l.length = m.length
  · have HL := Lib.hid hl
    have HM := Lib.hid hm
    have hle : ((l.length : Int) != (m.length : Int)) = false := by simp; omega
    have Hlen := Lib.hid hlen
    clear hl hm
    go_enter Try.func25, Try.ntmps25
    go_wp2_with fail
    clear hle
    go_loopw [5] (fun q wr => ∃ k : Nat, k ≤ l.length ∧ q = .int .i64 k ∧ Hid (∀ t, t < k → l[t]? = m[t]?) ∧ Below w.heap.size w wr) (fun q _ => l.length - (intOf q).toNat)
    case atStart => exact ⟨0, by omega, rfl, by intro t ht; omega, up0⟩
    case round =>
      obtain ⟨k, hk, rfl, hall, hB⟩ := hrel
      by_cases hlt : k < l.length
      · obtain ⟨x, hx⟩ : ∃ x, l[k]? = some x := ⟨_, List.getElem?_eq_getElem hlt⟩
        obtain ⟨y, hy⟩ : ∃ y, m[k]? = some y := ⟨_, List.getElem?_eq_getElem (by have := Hlen.out; omega)⟩
        have HL := Lib.hid (HL.out.kept hB)
        have HM := Lib.hid (HM.out.kept hB)
        obtain ⟨b1, o1, rfl, _, _⟩ := HL.out.at rfl hx
        obtain ⟨b2, o2, rfl, _, _⟩ := HM.out.at rfl hy
        have hlt2 : k < m.length := by have := Hlen.out; omega
        have k0 : (0 : Int) ≤ (k : Int) := by omega
        have k1 : (k : Int) < (l.length : Int) := by omega
        have k2 : (k : Int) < (m.length : Int) := by omega
        have Hx := Lib.hid hx
        have Hy := Lib.hid hy
        clear hx hy
        by_cases hxy : x = y
        · have hn : (x != y) = false := by simp [hxy]
          have Hxy := Lib.hid hxy
          clear hxy
          go_wp2_with fail
          apply wp_region_by 9 [(Fact.eq _), (Fact.eq _), (Fact.eq _), (Fact.eq _), (Fact.eq _), (Fact.eq _), (Fact.eq _), (Fact.eq _), (Fact.eq _)]
          case hm => kernel_rfl
          case hB => kernel_rfl
          case hA => (intro vs; simp only [List.take_succ_cons, List.take_zero, putAll, if_true, Act.put, List.setIfInBounds_toArray, List.set_cons_zero, List.set_cons_succ]; exact rfl)
          case hstep =>
            intro vs
            refine And.intro (fun w hw hd => ?_) ?_
            · refine ite_yes rfl ?_
              simp only [Gives]
              go_simp
              exact ⟨Below.refl _ _, rfl, fun h => by cases h⟩
            refine And.intro (fun w hw hd => ?_) ?_
            · refine ite_yes rfl ?_
              simp only [Gives]
              go_simp
              exact ⟨Below.refl _ _, rfl, fun h => by cases h⟩
            refine And.intro (fun w hw hd => ?_) ?_
            · have d0 := hd 0 (by decide) rfl
              change vs 0 = _ at d0
              have d1 := hd 1 (by decide) rfl
              change vs 1 = _ at d1
              refine ite_yes rfl ?_
              simp only [Gives]
              go_simp
              exact ⟨Below.refl _ _, rfl, fun h => by cases h⟩
            refine And.intro (fun w hw hd => ?_) ?_
            · have d2 := hd 2 (by decide) rfl
              change vs 2 = _ at d2
              refine ite_yes rfl ?_
              have q0 : w.cell? ⟨b1, o1 + k, none⟩ = some (.int .i64 x) := by simpa using (HL.out.kept hw).cellAt Hx.out (j := 0) rfl
              have q1 : w.cell? ⟨b2, o2 + k, none⟩ = some (.int .i64 y) := by simpa using (HM.out.kept hw).cellAt Hy.out (j := 0) rfl
              simp only [Gives]
              go_simp
              exact ⟨Below.refl _ _, rfl, fun h => by cases h⟩
            refine And.intro (fun w hw hd => ?_) ?_
            · refine ite_yes rfl ?_
              simp only [Gives]
              go_simp
              exact ⟨Below.refl _ _, rfl, fun h => by cases h⟩
            refine And.intro (fun w hw hd => ?_) ?_
            · refine ite_yes rfl ?_
              simp only [Gives]
              go_simp
              exact ⟨Below.refl _ _, rfl, fun h => by cases h⟩
            refine And.intro (fun w hw hd => ?_) ?_
            · have d4 := hd 4 (by decide) rfl
              change vs 4 = _ at d4
              have d5 := hd 5 (by decide) rfl
              change vs 5 = _ at d5
              refine ite_yes rfl ?_
              simp only [Gives]
              go_simp
              exact ⟨Below.refl _ _, rfl, fun h => by cases h⟩
            refine And.intro (fun w hw hd => ?_) ?_
            · have d6 := hd 6 (by decide) rfl
              change vs 6 = _ at d6
              refine ite_yes rfl ?_
              have q0 : w.cell? ⟨b1, o1 + k, none⟩ = some (.int .i64 x) := by simpa using (HL.out.kept hw).cellAt Hx.out (j := 0) rfl
              have q1 : w.cell? ⟨b2, o2 + k, none⟩ = some (.int .i64 y) := by simpa using (HM.out.kept hw).cellAt Hy.out (j := 0) rfl
              simp only [Gives]
              go_simp
              exact ⟨Below.refl _ _, rfl, fun h => by cases h⟩
            refine And.intro (fun w hw hd => ?_) ?_
            · have d3 := hd 3 (by decide) rfl
              change vs 3 = _ at d3
              have d7 := hd 7 (by decide) rfl
              change vs 7 = _ at d7
              refine ite_yes rfl ?_
              simp only [Gives]
              go_simp
              exact ⟨Below.refl _ _, rfl, fun h => by cases h⟩
            exact trivial
          intro vs wt hw hd hne hlo
          have d0 := hd 0 (by decide)
          change vs 0 = _ at d0
          have d1 := hd 1 (by decide)
          change vs 1 = _ at d1
          have d2 := hd 2 (by decide)
          change vs 2 = _ at d2
          have d3 := hd 3 (by decide)
          change vs 3 = _ at d3
          have d4 := hd 4 (by decide)
          change vs 4 = _ at d4
          have d5 := hd 5 (by decide)
          change vs 5 = _ at d5
          have d6 := hd 6 (by decide)
          change vs 6 = _ at d6
          have d7 := hd 7 (by decide)
          change vs 7 = _ at d7
          have d8 := hd 8 (by decide)
          change vs 8 = _ at d8
          simp only [d0, d1, d2, d3, d4, d5, d6, d7, d8, List.drop_succ_cons, List.drop_nil]
          clear hd hne hlo d0 d1 d2 d3 d4 d5 d6 d7 d8
          go_wp2_with fail
          refine ⟨⟨k + 1, by omega, by go_num, fun t ht => ?_, up_later hB hw⟩, by simp [intOf]; omega⟩
          by_cases htk : t = k
          · subst htk
            rw [Hx.out, Hy.out, Hxy.out]
          · exact hall.out t (by omega)
        · have hn : (x != y) = true := by simp [hxy]
          have Hxy := Lib.hid hxy
          clear hxy
          go_wp2_with fail
          apply wp_region_by 9 [(Fact.eq _), (Fact.eq _), (Fact.eq _), (Fact.eq _), (Fact.eq _), (Fact.eq _), (Fact.eq _), (Fact.eq _), (Fact.eq _)]
          case hm => kernel_rfl
          case hB => kernel_rfl
          case hA => (intro vs; simp only [List.take_succ_cons, List.take_zero, putAll, if_true, Act.put, List.setIfInBounds_toArray, List.set_cons_zero, List.set_cons_succ]; exact rfl)
          case hstep =>
            intro vs
            refine And.intro (fun w hw hd => ?_) ?_
            · refine ite_yes rfl ?_
              simp only [Gives]
              go_simp
              exact ⟨Below.refl _ _, rfl, fun h => by cases h⟩
            refine And.intro (fun w hw hd => ?_) ?_
            · refine ite_yes rfl ?_
              simp only [Gives]
              go_simp
              exact ⟨Below.refl _ _, rfl, fun h => by cases h⟩
            refine And.intro (fun w hw hd => ?_) ?_
            · have d0 := hd 0 (by decide) rfl
              change vs 0 = _ at d0
              have d1 := hd 1 (by decide) rfl
              change vs 1 = _ at d1
              refine ite_yes rfl ?_
              simp only [Gives]
              go_simp
              exact ⟨Below.refl _ _, rfl, fun h => by cases h⟩
            refine And.intro (fun w hw hd => ?_) ?_
            · have d2 := hd 2 (by decide) rfl
              change vs 2 = _ at d2
              refine ite_yes rfl ?_
              have q0 : w.cell? ⟨b1, o1 + k, none⟩ = some (.int .i64 x) := by simpa using (HL.out.kept hw).cellAt Hx.out (j := 0) rfl
              have q1 : w.cell? ⟨b2, o2 + k, none⟩ = some (.int .i64 y) := by simpa using (HM.out.kept hw).cellAt Hy.out (j := 0) rfl
              simp only [Gives]
              go_simp
              exact ⟨Below.refl _ _, rfl, fun h => by cases h⟩
            refine And.intro (fun w hw hd => ?_) ?_
            · refine ite_yes rfl ?_
              simp only [Gives]
              go_simp
              exact ⟨Below.refl _ _, rfl, fun h => by cases h⟩
            refine And.intro (fun w hw hd => ?_) ?_
            · refine ite_yes rfl ?_
              simp only [Gives]
              go_simp
              exact ⟨Below.refl _ _, rfl, fun h => by cases h⟩
            refine And.intro (fun w hw hd => ?_) ?_
            · have d4 := hd 4 (by decide) rfl
              change vs 4 = _ at d4
              have d5 := hd 5 (by decide) rfl
              change vs 5 = _ at d5
              refine ite_yes rfl ?_
              simp only [Gives]
              go_simp
              exact ⟨Below.refl _ _, rfl, fun h => by cases h⟩
            refine And.intro (fun w hw hd => ?_) ?_
            · have d6 := hd 6 (by decide) rfl
              change vs 6 = _ at d6
              refine ite_yes rfl ?_
              have q0 : w.cell? ⟨b1, o1 + k, none⟩ = some (.int .i64 x) := by simpa using (HL.out.kept hw).cellAt Hx.out (j := 0) rfl
              have q1 : w.cell? ⟨b2, o2 + k, none⟩ = some (.int .i64 y) := by simpa using (HM.out.kept hw).cellAt Hy.out (j := 0) rfl
              simp only [Gives]
              go_simp
              exact ⟨Below.refl _ _, rfl, fun h => by cases h⟩
            refine And.intro (fun w hw hd => ?_) ?_
            · have d3 := hd 3 (by decide) rfl
              change vs 3 = _ at d3
              have d7 := hd 7 (by decide) rfl
              change vs 7 = _ at d7
              refine ite_yes rfl ?_
              simp only [Gives]
              go_simp
              exact ⟨Below.refl _ _, rfl, fun h => by cases h⟩
            exact trivial
          intro vs wt hw hd hne hlo
          have d0 := hd 0 (by decide)
          change vs 0 = _ at d0
          have d1 := hd 1 (by decide)
          change vs 1 = _ at d1
          have d2 := hd 2 (by decide)
          change vs 2 = _ at d2
          have d3 := hd 3 (by decide)
          change vs 3 = _ at d3
          have d4 := hd 4 (by decide)
          change vs 4 = _ at d4
          have d5 := hd 5 (by decide)
          change vs 5 = _ at d5
          have d6 := hd 6 (by decide)
          change vs 6 = _ at d6
          have d7 := hd 7 (by decide)
          change vs 7 = _ at d7
          have d8 := hd 8 (by decide)
          change vs 8 = _ at d8
          simp only [d0, d1, d2, d3, d4, d5, d6, d7, d8, List.drop_succ_cons, List.drop_nil]
          clear hd hne hlo d0 d1 d2 d3 d4 d5 d6 d7 d8
          go_wp2_with fail
          go_ret
          have hlm : (l == m) = false := by
            simp
            intro e
            have h1 := Hx.out
            have h2 := Hy.out
            rw [e, h2] at h1
            exact Hxy.out (by injection h1 with h1; exact h1.symm)
          exact ⟨by rw [hlm]; rfl, up_later hB hw⟩
      · obtain rfl : k = l.length := by omega
        go_wp2_with fail
        go_ret
        have hlm : (l == m) = true := by
          simp
          refine List.ext_getElem? fun t => ?_
          by_cases ht : t < l.length
          · exact hall.out t ht
          · rw [List.getElem?_eq_none (by omega), List.getElem?_eq_none (by have := Hlen.out; omega)]
        exact ⟨by rw [hlm]; rfl, hB⟩
  · have hne : ((l.length : Int) != (m.length : Int)) = true := by simp; omega
    have hlm : (l == m) = false := by simp; intro e; exact hlen (by rw [e])
    have Hlm := Lib.hid hlm
    clear hlen hlm
    go_enter Try.func25, Try.ntmps25
    go_wp2_with fail
    go_ret
    exact ⟨by rw [Hlm.out]; rfl, up0⟩

end Go.Proofs.Ytojbdmdjepgpjaa

namespace Go.Proofs.Ytojbdmdjepgpjaa
open Go.RowKit

def withinB (l m : List Int) : Bool := l.all fun x => m.any fun y => y == x
theorem any_take_succ {m : List Int} {k : Nat} {y : Int} {p : Int → Bool} (hy : m[k]? = some y) : (m.take (k + 1)).any p = ((m.take k).any p || p y) := by
  rw [List.take_add_one, hy]
  simp
theorem within_no {l m : List Int} {x : Int} (hx : x ∈ l) (h : (m.any fun y => y == x) = false) : withinB l m = false := by
  cases hh : withinB l m with
  | false => rfl
  | true =>
    have := List.all_eq_true.1 hh x hx
    rw [h] at this
    cases this

set_option maxRecDepth 100000 in
set_option maxHeartbeats 1000000 in
theorem within_any (u v : Value) (l m : List Int) (w : World) (hl : RowsAt w u 1 (fun n => [iv n]) l) (hm : RowsAt w v 1 (fun n => [iv n]) m) :
    Calls Try.prog 40 #[u, v] w fun e w' => e = .returned (.bool (withinB l m)) ∧ Below w.heap.size w w' := by
  obtain ⟨hn1, A1, cap1, rfl, _, _⟩ := hl.form
  obtain ⟨hn2, A2, cap2, rfl, _, _⟩ := hm.form
  have HL := Lib.hid hl
  have HM := Lib.hid hm
  clear hl hm
  go_enter Try.func40, Try.ntmps40
  go_wp2_with fail
  go_loopw [5] (fun q wr => ∃ i : Nat, i ≤ l.length ∧ q = .int .i64 i ∧ Hid (∀ x ∈ l.take i, (m.any fun y => y == x) = true) ∧ Hid (Below w.heap.size w wr)) (fun q _ => l.length - (intOf q).toNat)
  case atStart => exact ⟨0, by omega, rfl, by simp [Hid], up0⟩
  case round =>
    obtain ⟨i, hi, rfl, hall, hB⟩ := hrel
    have i0 : (0 : Int) ≤ (i : Int) := by omega
    by_cases hlt : i < l.length
    · obtain ⟨x, hx⟩ : ∃ x, l[i]? = some x := ⟨_, List.getElem?_eq_getElem hlt⟩
      have Hx := Lib.hid hx
      have i1 : (i : Int) < (l.length : Int) := by omega
      obtain ⟨b1, o1, rfl, _, _⟩ := HL.out.at rfl hx
      clear hx
      go_wp2_with fail
      go_loopw [6, 7] (fun h q wi => ∃ k : Nat, k ≤ m.length ∧ q = .int .i64 k ∧ h = .bool ((m.take k).any fun y => y == x) ∧ Hid (Below w.heap.size w wi)) (fun _ q _ => m.length - (intOf q).toNat)
      case atStart => exact ⟨0, by omega, rfl, by simp, hB.out⟩
      case round =>
        clear hB
        obtain ⟨k, hk, rfl, rfl, hB⟩ := hrel
        have k0 : (0 : Int) ≤ (k : Int) := by omega
        by_cases hkl : k < m.length
        · obtain ⟨y, hy⟩ : ∃ y, m[k]? = some y := ⟨_, List.getElem?_eq_getElem hkl⟩
          have Hy := Lib.hid hy
          have k1 : (k : Int) < (m.length : Int) := by omega
          have HR1 := Lib.hid (HL.out.kept hB.out)
          have HR2 := Lib.hid (HM.out.kept hB.out)
          obtain ⟨b2, o2, rfl, _, _⟩ := HR2.out.at rfl hy
          clear hy
          cases hh : (m.take k).any fun y => y == x with
          | true =>
            have Hh := Lib.hid hh
            clear hh
            go_wp2_with fail
            apply wp_region_by 12 [(Fact.eq _), (Fact.eq _), (Fact.eq _), (Fact.eq _), (Fact.eq _), (Fact.eq _), (Fact.eq _), (Fact.eq _), (Fact.eq _), (Fact.eq _), (Fact.eq _), (Fact.eq _)]
            case hm => kernel_rfl
            case hB => kernel_rfl
            case hA => (intro vs; simp only [List.take_succ_cons, List.take_zero, putAll, if_true, Act.put, List.setIfInBounds_toArray, List.set_cons_zero, List.set_cons_succ]; exact rfl)
            case hstep =>
              intro vs
              refine And.intro (fun w hw hd => ?_) ?_
              · refine ite_yes rfl ?_
                simp only [Gives]
                go_simp
                exact ⟨Below.refl _ _, rfl, fun h => by cases h⟩
              refine And.intro (fun w hw hd => ?_) ?_
              · have d0 := hd 0 (by decide) rfl
                change vs 0 = _ at d0
                refine ite_yes rfl ?_
                simp only [Gives]
                go_simp
                exact ⟨Below.refl _ _, rfl, fun h => by cases h⟩
              refine And.intro (fun w hw hd => ?_) ?_
              · have d1 := hd 1 (by decide) rfl
                change vs 1 = _ at d1
                refine ite_no (by simp [Region.wanted, yielded, d1]) ?_
                exact ⟨rfl, rfl⟩
              refine And.intro (fun w hw hd => ?_) ?_
              · have d1 := hd 1 (by decide) rfl
                change vs 1 = _ at d1
                refine ite_no (by simp [Region.wanted, yielded, d1]) ?_
                exact ⟨rfl, rfl⟩
              refine And.intro (fun w hw hd => ?_) ?_
              · have d2 := hd 2 (by decide) rfl
                change vs 2 = _ at d2
                have d3 := hd 3 (by decide) rfl
                change vs 3 = _ at d3
                have d1 := hd 1 (by decide) rfl
                change vs 1 = _ at d1
                refine ite_no (by simp [Region.wanted, yielded, d1]) ?_
                exact ⟨rfl, rfl⟩
              refine And.intro (fun w hw hd => ?_) ?_
              · have d4 := hd 4 (by decide) rfl
                change vs 4 = _ at d4
                have d1 := hd 1 (by decide) rfl
                change vs 1 = _ at d1
                refine ite_no (by simp [Region.wanted, yielded, d1]) ?_
                exact ⟨rfl, rfl⟩
              refine And.intro (fun w hw hd => ?_) ?_
              · have d1 := hd 1 (by decide) rfl
                change vs 1 = _ at d1
                refine ite_no (by simp [Region.wanted, yielded, d1]) ?_
                exact ⟨rfl, rfl⟩
              refine And.intro (fun w hw hd => ?_) ?_
              · have d1 := hd 1 (by decide) rfl
                change vs 1 = _ at d1
                refine ite_no (by simp [Region.wanted, yielded, d1]) ?_
                exact ⟨rfl, rfl⟩
              refine And.intro (fun w hw hd => ?_) ?_
              · have d6 := hd 6 (by decide) rfl
                change vs 6 = _ at d6
                have d7 := hd 7 (by decide) rfl
                change vs 7 = _ at d7
                have d1 := hd 1 (by decide) rfl
                change vs 1 = _ at d1
                refine ite_no (by simp [Region.wanted, yielded, d1]) ?_
                exact ⟨rfl, rfl⟩
              refine And.intro (fun w hw hd => ?_) ?_
              · have d8 := hd 8 (by decide) rfl
                change vs 8 = _ at d8
                have d1 := hd 1 (by decide) rfl
                change vs 1 = _ at d1
                refine ite_no (by simp [Region.wanted, yielded, d1]) ?_
                exact ⟨rfl, rfl⟩
              refine And.intro (fun w hw hd => ?_) ?_
              · have d5 := hd 5 (by decide) rfl
                change vs 5 = _ at d5
                have d9 := hd 9 (by decide) rfl
                change vs 9 = _ at d9
                have d1 := hd 1 (by decide) rfl
                change vs 1 = _ at d1
                refine ite_no (by simp [Region.wanted, yielded, d1]) ?_
                exact ⟨rfl, rfl⟩
              refine And.intro (fun w hw hd => ?_) ?_
              · have d1 := hd 1 (by decide) rfl
                change vs 1 = _ at d1
                have d10 := hd 10 (by decide) rfl
                change vs 10 = _ at d10
                refine ite_yes rfl ?_
                simp only [Gives]
                go_simp
                exact ⟨Below.refl _ _, rfl, fun h => by cases h⟩
              exact trivial
            intro vs wt hw hd hne hlo
            have d0 := hd 0 (by decide)
            change vs 0 = _ at d0
            have d1 := hd 1 (by decide)
            change vs 1 = _ at d1
            have d2 := hd 2 (by decide)
            change vs 2 = _ at d2
            have d3 := hd 3 (by decide)
            change vs 3 = _ at d3
            have d4 := hd 4 (by decide)
            change vs 4 = _ at d4
            have d5 := hd 5 (by decide)
            change vs 5 = _ at d5
            have d6 := hd 6 (by decide)
            change vs 6 = _ at d6
            have d7 := hd 7 (by decide)
            change vs 7 = _ at d7
            have d8 := hd 8 (by decide)
            change vs 8 = _ at d8
            have d9 := hd 9 (by decide)
            change vs 9 = _ at d9
            have d10 := hd 10 (by decide)
            change vs 10 = _ at d10
            have d11 := hd 11 (by decide)
            change vs 11 = _ at d11
            simp only [d0, d1, d2, d3, d4, d5, d6, d7, d8, d9, d10, d11, List.drop_succ_cons, List.drop_zero]
            clear hd hne hlo d0 d1 d2 d3 d4 d5 d6 d7 d8 d9 d10 d11
            go_wp2_with fail
            exact ⟨⟨k + 1, by omega, by go_num, by rw [any_take_succ Hy.out, Hh.out]; rfl, up_later hB.out hw⟩, by simp [intOf]; omega⟩
          | false =>
            have Hh := Lib.hid hh
            clear hh
            cases hyx : (y == x) with
            | true =>
              have Hyx := Lib.hid hyx
              go_wp2_with fail
              apply wp_region_by 12 [(Fact.eq _), (Fact.eq _), (Fact.eq _), (Fact.eq _), (Fact.eq _), (Fact.eq _), (Fact.eq _), (Fact.eq _), (Fact.eq _), (Fact.eq _), (Fact.eq _), (Fact.eq _)]
              case hm => kernel_rfl
              case hB => kernel_rfl
              case hA => (intro vs; simp only [List.take_succ_cons, List.take_zero, putAll, if_true, Act.put, List.setIfInBounds_toArray, List.set_cons_zero, List.set_cons_succ]; exact rfl)
              case hstep =>
                intro vs
                refine And.intro (fun w hw hd => ?_) ?_
                · refine ite_yes rfl ?_
                  simp only [Gives]
                  go_simp
                  exact ⟨Below.refl _ _, rfl, fun h => by cases h⟩
                refine And.intro (fun w hw hd => ?_) ?_
                · have d0 := hd 0 (by decide) rfl
                  change vs 0 = _ at d0
                  refine ite_yes rfl ?_
                  simp only [Gives]
                  go_simp
                  exact ⟨Below.refl _ _, rfl, fun h => by cases h⟩
                refine And.intro (fun w hw hd => ?_) ?_
                · have d1 := hd 1 (by decide) rfl
                  change vs 1 = _ at d1
                  refine ite_yes (by simp [Region.wanted, yielded, d1]) ?_
                  simp only [Gives]
                  go_simp
                  exact ⟨Below.refl _ _, rfl, fun h => by cases h⟩
                refine And.intro (fun w hw hd => ?_) ?_
                · have d1 := hd 1 (by decide) rfl
                  change vs 1 = _ at d1
                  refine ite_yes (by simp [Region.wanted, yielded, d1]) ?_
                  simp only [Gives]
                  go_simp
                  exact ⟨Below.refl _ _, rfl, fun h => by cases h⟩
                refine And.intro (fun w hw hd => ?_) ?_
                · have d2 := hd 2 (by decide) rfl
                  change vs 2 = _ at d2
                  have d3 := hd 3 (by decide) rfl
                  change vs 3 = _ at d3
                  have d1 := hd 1 (by decide) rfl
                  change vs 1 = _ at d1
                  refine ite_yes (by simp [Region.wanted, yielded, d1]) ?_
                  simp only [Gives]
                  go_simp
                  exact ⟨Below.refl _ _, rfl, fun h => by cases h⟩
                refine And.intro (fun w hw hd => ?_) ?_
                · have d4 := hd 4 (by decide) rfl
                  change vs 4 = _ at d4
                  have d1 := hd 1 (by decide) rfl
                  change vs 1 = _ at d1
                  refine ite_yes (by simp [Region.wanted, yielded, d1]) ?_
                  have q0 : w.cell? ⟨b1, o1 + i, none⟩ = some (.int .i64 x) := by simpa using (HR1.out.kept hw).cellAt Hx.out (j := 0) rfl
                  have q1 : w.cell? ⟨b2, o2 + k, none⟩ = some (.int .i64 y) := by simpa using (HR2.out.kept hw).cellAt Hy.out (j := 0) rfl
                  simp only [Gives]
                  go_simp
                  exact ⟨Below.refl _ _, rfl, fun h => by cases h⟩
                refine And.intro (fun w hw hd => ?_) ?_
                · have d1 := hd 1 (by decide) rfl
                  change vs 1 = _ at d1
                  refine ite_yes (by simp [Region.wanted, yielded, d1]) ?_
                  simp only [Gives]
                  go_simp
                  exact ⟨Below.refl _ _, rfl, fun h => by cases h⟩
                refine And.intro (fun w hw hd => ?_) ?_
                · have d1 := hd 1 (by decide) rfl
                  change vs 1 = _ at d1
                  refine ite_yes (by simp [Region.wanted, yielded, d1]) ?_
                  simp only [Gives]
                  go_simp
                  exact ⟨Below.refl _ _, rfl, fun h => by cases h⟩
                refine And.intro (fun w hw hd => ?_) ?_
                · have d6 := hd 6 (by decide) rfl
                  change vs 6 = _ at d6
                  have d7 := hd 7 (by decide) rfl
                  change vs 7 = _ at d7
                  have d1 := hd 1 (by decide) rfl
                  change vs 1 = _ at d1
                  refine ite_yes (by simp [Region.wanted, yielded, d1]) ?_
                  simp only [Gives]
                  go_simp
                  exact ⟨Below.refl _ _, rfl, fun h => by cases h⟩
                refine And.intro (fun w hw hd => ?_) ?_
                · have d8 := hd 8 (by decide) rfl
                  change vs 8 = _ at d8
                  have d1 := hd 1 (by decide) rfl
                  change vs 1 = _ at d1
                  refine ite_yes (by simp [Region.wanted, yielded, d1]) ?_
                  have q0 : w.cell? ⟨b1, o1 + i, none⟩ = some (.int .i64 x) := by simpa using (HR1.out.kept hw).cellAt Hx.out (j := 0) rfl
                  have q1 : w.cell? ⟨b2, o2 + k, none⟩ = some (.int .i64 y) := by simpa using (HR2.out.kept hw).cellAt Hy.out (j := 0) rfl
                  simp only [Gives]
                  go_simp
                  exact ⟨Below.refl _ _, rfl, fun h => by cases h⟩
                refine And.intro (fun w hw hd => ?_) ?_
                · have d5 := hd 5 (by decide) rfl
                  change vs 5 = _ at d5
                  have d9 := hd 9 (by decide) rfl
                  change vs 9 = _ at d9
                  have d1 := hd 1 (by decide) rfl
                  change vs 1 = _ at d1
                  refine ite_yes (by simp [Region.wanted, yielded, d1]) ?_
                  simp only [Gives]
                  go_simp
                  exact ⟨Below.refl _ _, rfl, fun h => by cases h⟩
                refine And.intro (fun w hw hd => ?_) ?_
                · have d1 := hd 1 (by decide) rfl
                  change vs 1 = _ at d1
                  have d10 := hd 10 (by decide) rfl
                  change vs 10 = _ at d10
                  refine ite_yes rfl ?_
                  simp only [Gives]
                  go_simp
                  exact ⟨Below.refl _ _, rfl, fun h => by cases h⟩
                exact trivial
              intro vs wt hw hd hne hlo
              have d0 := hd 0 (by decide)
              change vs 0 = _ at d0
              have d1 := hd 1 (by decide)
              change vs 1 = _ at d1
              have d2 := hd 2 (by decide)
              change vs 2 = _ at d2
              have d3 := hd 3 (by decide)
              change vs 3 = _ at d3
              have d4 := hd 4 (by decide)
              change vs 4 = _ at d4
              have d5 := hd 5 (by decide)
              change vs 5 = _ at d5
              have d6 := hd 6 (by decide)
              change vs 6 = _ at d6
              have d7 := hd 7 (by decide)
              change vs 7 = _ at d7
              have d8 := hd 8 (by decide)
              change vs 8 = _ at d8
              have d9 := hd 9 (by decide)
              change vs 9 = _ at d9
              have d10 := hd 10 (by decide)
              change vs 10 = _ at d10
              have d11 := hd 11 (by decide)
              change vs 11 = _ at d11
              simp only [d0, d1, d2, d3, d4, d5, d6, d7, d8, d9, d10, d11, List.drop_succ_cons, List.drop_zero]
              clear hd hne hlo d0 d1 d2 d3 d4 d5 d6 d7 d8 d9 d10 d11
              go_wp2_with fail
              exact ⟨⟨k + 1, by omega, by go_num, by rw [any_take_succ Hy.out, Hh.out, Hyx.out]; rfl, up_later hB.out hw⟩, by simp [intOf]; omega⟩
            | false =>
              have Hyx := Lib.hid hyx
              go_wp2_with fail
              apply wp_region_by 12 [(Fact.eq _), (Fact.eq _), (Fact.eq _), (Fact.eq _), (Fact.eq _), (Fact.eq _), (Fact.eq _), (Fact.eq _), (Fact.eq _), (Fact.eq _), (Fact.eq _), (Fact.eq _)]
              case hm => kernel_rfl
              case hB => kernel_rfl
              case hA => (intro vs; simp only [List.take_succ_cons, List.take_zero, putAll, if_true, Act.put, List.setIfInBounds_toArray, List.set_cons_zero, List.set_cons_succ]; exact rfl)
              case hstep =>
                intro vs
                refine And.intro (fun w hw hd => ?_) ?_
                · refine ite_yes rfl ?_
                  simp only [Gives]
                  go_simp
                  exact ⟨Below.refl _ _, rfl, fun h => by cases h⟩
                refine And.intro (fun w hw hd => ?_) ?_
                · have d0 := hd 0 (by decide) rfl
                  change vs 0 = _ at d0
                  refine ite_yes rfl ?_
                  simp only [Gives]
                  go_simp
                  exact ⟨Below.refl _ _, rfl, fun h => by cases h⟩
                refine And.intro (fun w hw hd => ?_) ?_
                · have d1 := hd 1 (by decide) rfl
                  change vs 1 = _ at d1
                  refine ite_yes (by simp [Region.wanted, yielded, d1]) ?_
                  simp only [Gives]
                  go_simp
                  exact ⟨Below.refl _ _, rfl, fun h => by cases h⟩
                refine And.intro (fun w hw hd => ?_) ?_
                · have d1 := hd 1 (by decide) rfl
                  change vs 1 = _ at d1
                  refine ite_yes (by simp [Region.wanted, yielded, d1]) ?_
                  simp only [Gives]
                  go_simp
                  exact ⟨Below.refl _ _, rfl, fun h => by cases h⟩
                refine And.intro (fun w hw hd => ?_) ?_
                · have d2 := hd 2 (by decide) rfl
                  change vs 2 = _ at d2
                  have d3 := hd 3 (by decide) rfl
                  change vs 3 = _ at d3
                  have d1 := hd 1 (by decide) rfl
                  change vs 1 = _ at d1
                  refine ite_yes (by simp [Region.wanted, yielded, d1]) ?_
                  simp only [Gives]
                  go_simp
                  exact ⟨Below.refl _ _, rfl, fun h => by cases h⟩
                refine And.intro (fun w hw hd => ?_) ?_
                · have d4 := hd 4 (by decide) rfl
                  change vs 4 = _ at d4
                  have d1 := hd 1 (by decide) rfl
                  change vs 1 = _ at d1
                  refine ite_yes (by simp [Region.wanted, yielded, d1]) ?_
                  have q0 : w.cell? ⟨b1, o1 + i, none⟩ = some (.int .i64 x) := by simpa using (HR1.out.kept hw).cellAt Hx.out (j := 0) rfl
                  have q1 : w.cell? ⟨b2, o2 + k, none⟩ = some (.int .i64 y) := by simpa using (HR2.out.kept hw).cellAt Hy.out (j := 0) rfl
                  simp only [Gives]
                  go_simp
                  exact ⟨Below.refl _ _, rfl, fun h => by cases h⟩
                refine And.intro (fun w hw hd => ?_) ?_
                · have d1 := hd 1 (by decide) rfl
                  change vs 1 = _ at d1
                  refine ite_yes (by simp [Region.wanted, yielded, d1]) ?_
                  simp only [Gives]
                  go_simp
                  exact ⟨Below.refl _ _, rfl, fun h => by cases h⟩
                refine And.intro (fun w hw hd => ?_) ?_
                · have d1 := hd 1 (by decide) rfl
                  change vs 1 = _ at d1
                  refine ite_yes (by simp [Region.wanted, yielded, d1]) ?_
                  simp only [Gives]
                  go_simp
                  exact ⟨Below.refl _ _, rfl, fun h => by cases h⟩
                refine And.intro (fun w hw hd => ?_) ?_
                · have d6 := hd 6 (by decide) rfl
                  change vs 6 = _ at d6
                  have d7 := hd 7 (by decide) rfl
                  change vs 7 = _ at d7
                  have d1 := hd 1 (by decide) rfl
                  change vs 1 = _ at d1
                  refine ite_yes (by simp [Region.wanted, yielded, d1]) ?_
                  simp only [Gives]
                  go_simp
                  exact ⟨Below.refl _ _, rfl, fun h => by cases h⟩
                refine And.intro (fun w hw hd => ?_) ?_
                · have d8 := hd 8 (by decide) rfl
                  change vs 8 = _ at d8
                  have d1 := hd 1 (by decide) rfl
                  change vs 1 = _ at d1
                  refine ite_yes (by simp [Region.wanted, yielded, d1]) ?_
                  have q0 : w.cell? ⟨b1, o1 + i, none⟩ = some (.int .i64 x) := by simpa using (HR1.out.kept hw).cellAt Hx.out (j := 0) rfl
                  have q1 : w.cell? ⟨b2, o2 + k, none⟩ = some (.int .i64 y) := by simpa using (HR2.out.kept hw).cellAt Hy.out (j := 0) rfl
                  simp only [Gives]
                  go_simp
                  exact ⟨Below.refl _ _, rfl, fun h => by cases h⟩
                refine And.intro (fun w hw hd => ?_) ?_
                · have d5 := hd 5 (by decide) rfl
                  change vs 5 = _ at d5
                  have d9 := hd 9 (by decide) rfl
                  change vs 9 = _ at d9
                  have d1 := hd 1 (by decide) rfl
                  change vs 1 = _ at d1
                  refine ite_yes (by simp [Region.wanted, yielded, d1]) ?_
                  simp only [Gives]
                  go_simp
                  exact ⟨Below.refl _ _, rfl, fun h => by cases h⟩
                refine And.intro (fun w hw hd => ?_) ?_
                · have d1 := hd 1 (by decide) rfl
                  change vs 1 = _ at d1
                  have d10 := hd 10 (by decide) rfl
                  change vs 10 = _ at d10
                  refine ite_yes rfl ?_
                  simp only [Gives]
                  go_simp
                  exact ⟨Below.refl _ _, rfl, fun h => by cases h⟩
                exact trivial
              intro vs wt hw hd hne hlo
              have d0 := hd 0 (by decide)
              change vs 0 = _ at d0
              have d1 := hd 1 (by decide)
              change vs 1 = _ at d1
              have d2 := hd 2 (by decide)
              change vs 2 = _ at d2
              have d3 := hd 3 (by decide)
              change vs 3 = _ at d3
              have d4 := hd 4 (by decide)
              change vs 4 = _ at d4
              have d5 := hd 5 (by decide)
              change vs 5 = _ at d5
              have d6 := hd 6 (by decide)
              change vs 6 = _ at d6
              have d7 := hd 7 (by decide)
              change vs 7 = _ at d7
              have d8 := hd 8 (by decide)
              change vs 8 = _ at d8
              have d9 := hd 9 (by decide)
              change vs 9 = _ at d9
              have d10 := hd 10 (by decide)
              change vs 10 = _ at d10
              have d11 := hd 11 (by decide)
              change vs 11 = _ at d11
              simp only [d0, d1, d2, d3, d4, d5, d6, d7, d8, d9, d10, d11, List.drop_succ_cons, List.drop_zero]
              clear hd hne hlo d0 d1 d2 d3 d4 d5 d6 d7 d8 d9 d10 d11
              go_wp2_with fail
              exact ⟨⟨k + 1, by omega, by go_num, by rw [any_take_succ Hy.out, Hh.out, Hyx.out]; rfl, up_later hB.out hw⟩, by simp [intOf]; omega⟩
        · obtain rfl : k = m.length := by omega
          rw [List.take_length] at *
          cases hh : m.any fun y => y == x with
          | true =>
            have Hh := Lib.hid hh
            clear hh
            go_wp2_with fail
            refine ⟨⟨i + 1, by omega, by go_num, fun z hz => ?_, hB.out⟩, by simp [intOf]; omega⟩
            rw [List.take_add_one, Hx.out] at hz
            rcases List.mem_append.1 hz with hz | hz
            · exact hall.out z hz
            · have : z = x := by simpa using hz
              rw [this]
              exact Hh.out
          | false =>
            have hr := within_no (List.mem_of_getElem? Hx.out) hh
            have Hr := Lib.hid hr
            clear hr hh
            go_wp2_with fail
            go_ret
            exact ⟨by rw [Hr.out]; rfl, hB.out⟩
    · obtain rfl : i = l.length := by omega
      have hr : withinB l m = true := List.all_eq_true.2 fun x hx => hall.out x (by rw [List.take_length]; exact hx)
      have Hr := Lib.hid hr
      clear hr hall
      go_wp2_with fail
      go_ret
      exact ⟨by rw [Hr.out]; rfl, hB.out⟩

end Go.Proofs.Ytojbdmdjepgpjaa
