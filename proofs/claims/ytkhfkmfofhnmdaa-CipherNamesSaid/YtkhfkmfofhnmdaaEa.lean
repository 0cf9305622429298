/-
  WALKS of the law's ready and lossed over books and lists of any length. No condition.
-/
import Derived.Test.YtkhfkmfofhnmdaaDl
import Derived.Test.YtkhfkmfofhnmdaaDm
import Derived.Test.YtkhfkmfofhnmdaaDp
namespace Go.Proofs.Ytkhfkmfofhnmdaa
open Go.RowKit Go.Shelf
attribute [local go_sem] Oper.semAt_some

set_option maxRecDepth 100000 in
set_option maxHeartbeats 1000000 in
theorem ready_fat2 (n ws : Int) (A1 A2 : Option Addr) (n1 n2 c1 c2 : Nat) (v : Value) (w : World) (h1 : n1 ≤ 9223372036854775807) (h2 : n2 ≤ 9223372036854775807) (hT : (decide (n1 ≤ 8) && decide (n2 ≤ 11)) = false) :
    Calls Try.prog 47 #[.agg #[iv n, iv ws, .slice A1 n1 c1, .slice A2 n2 c2], v] w fun e w' => e = .returned (.bool false) ∧ Below w.heap.size w w' := by
  have HT := Lib.hid hT
  clear hT
  go_enter Try.func47, Try.ntmps47
  go_wp2_with fail
  refine (Thin_any _ _ _ _ _ _ _ _ _ h1 h2).mono ?_
  rintro e w1 ⟨rfl, hb⟩
  rw [HT.out]
  go_wp2_with fail
  go_ret
  exact ⟨rfl, up_later (up_alloc up0 _) hb⟩
def readyT (b : Bk) (l : List Int) : Bool := thinB b && readyB b l
theorem readyT_iff {b : Bk} {l : List Int} : readyT b l = true ↔ (b.ks.length ≤ 8 ∧ b.ds.length ≤ 11) ∧ readyB' b l := by
  simp only [readyT, thinB, readyB, readyB', Bool.and_eq_true, decide_eq_true_eq, and_assoc]
theorem ready_law (v1 v2 : Value) (b : Bk) (v : Value) (l : List Int) (w : World) (hL : BookAny w v1 v2 b) (hl : RowsAny w v 1 ic l) :
    Calls Try.prog 47 #[.agg #[iv b.n, iv b.w, v1, v2], v] w fun e w' => e = .returned (.bool (readyT b l)) ∧ Below w.heap.size w w' := by
  obtain ⟨A, cap, rfl, hc, hcm⟩ := hl.form
  cases hT : (decide (b.ks.length ≤ 8) && decide (b.ds.length ≤ 11)) with
  | true =>
    have h : b.ks.length ≤ 8 ∧ b.ds.length ≤ 11 := by simpa using hT
    have e : readyT b l = readyB b l := by unfold readyT thinB; rw [hT]; rfl
    rw [e]
    exact ready_thin v1 v2 b A l.length cap l w (hL.at h.1 h.2) h (by omega) rfl (fun h => hl.rows (by omega))
  | false =>
    have e : readyT b l = false := by unfold readyT thinB; rw [hT]; rfl
    rw [e]
    obtain ⟨A1, c1, rfl, g1, g2⟩ := hL.ks.form
    obtain ⟨A2, c2, rfl, g3, g4⟩ := hL.ds.form
    exact ready_fat2 b.n b.w A1 A2 _ _ c1 c2 _ w (by omega) (by omega) hT

def lossedT (b : Bk) (ls : List Ls) : Bool := thinB b && (decide (ls.length ≤ 9) && decide (deskE b ls = 0))
theorem lossedT_iff {b : Bk} {ls : List Ls} : lossedT b ls = true ↔ (b.ks.length ≤ 8 ∧ b.ds.length ≤ 11) ∧ ls.length ≤ 9 ∧ deskE b ls = 0 := by
  simp only [lossedT, thinB, Bool.and_eq_true, decide_eq_true_eq]
set_option maxRecDepth 100000 in
set_option maxHeartbeats 1500000 in
theorem lossed_law (v1 v2 : Value) (b : Bk) (v : Value) (ls : List Ls) (w : World) (hL : BookAny w v1 v2 b) (hl : RowsAny w v 2 Ls.cells ls) :
    Calls Try.prog 50 #[.agg #[iv b.n, iv b.w, v1, v2], v] w fun e w' => e = .returned (.bool (lossedT b ls)) ∧ Below w.heap.size w w' := by
  obtain ⟨A1, cap1, rfl, g1, g2⟩ := hL.ks.form
  obtain ⟨A2, cap2, rfl, g3, g4⟩ := hL.ds.form
  obtain ⟨A3, cap3, rfl, g5, g6⟩ := hl.form
  cases hT : (decide (b.ks.length ≤ 8) && decide (b.ds.length ≤ 11)) with
  | false =>
    have Hr := Lib.hid (show lossedT b ls = false by unfold lossedT thinB; rw [hT]; rfl)
    have HT := Lib.hid hT
    clear hT hL hl
    go_enter Try.func50, Try.ntmps50
    go_wp2_with fail
    refine (Thin_any _ _ _ _ _ _ _ _ _ (by omega) (by omega)).mono ?_
    rintro e w1 ⟨rfl, hb⟩
    rw [HT.out]
    have HB := Lib.hid (up_later (up_alloc (up0 (w := w)) (.cells #[iv b.n, iv b.w, .slice A1 b.ks.length cap1, .slice A2 b.ds.length cap2] 25)) hb)
    have B1 := Lib.hid ((Box.new (w := w) (t := 25) (cs := #[iv b.n, iv b.w, .slice A1 b.ks.length cap1, .slice A2 b.ds.length cap2]) rfl).kept hb)
    clear hb
    have BB := B1.out
    have cB := fun i => BB.cell i
    have fB := fun i => BB.free i
    have lB := BB.lt
    have mB := Nat.lt_succ_of_lt lB
    go_wp2_with fail
    clear cB fB lB mB BB
    go_ret
    exact ⟨by rw [Hr.out]; rfl, HB.out⟩
  | true =>
  have h8 : b.ks.length ≤ 8 ∧ b.ds.length ≤ 11 := by simpa using hT
  have HT := Lib.hid hT
  have HL := Lib.hid (hL.at h8.1 h8.2)
  have hk8 := h8.1
  have hd11 := h8.2
  by_cases c9 : ls.length ≤ 9
  case neg =>
    have n9 : decide ((ls.length : Int) ≤ 9) = false := by rw [decide_eq_false_iff_not]; omega
    have Hr := Lib.hid (show lossedT b ls = false by unfold lossedT; rw [decide_eq_false c9]; simp)
    clear hT hL hl
    go_enter Try.func50, Try.ntmps50
    go_wp2_with fail
    refine (Thin_any _ _ _ _ _ _ _ _ _ (by omega) (by omega)).mono ?_
    rintro e w1 ⟨rfl, hb⟩
    rw [HT.out]
    have HB := Lib.hid (up_later (up_alloc (up0 (w := w)) (.cells #[iv b.n, iv b.w, .slice A1 b.ks.length cap1, .slice A2 b.ds.length cap2] 25)) hb)
    have B1 := Lib.hid ((Box.new (w := w) (t := 25) (cs := #[iv b.n, iv b.w, .slice A1 b.ks.length cap1, .slice A2 b.ds.length cap2]) rfl).kept hb)
    clear hb
    have BB := B1.out
    have cB := fun i => BB.cell i
    have fB := fun i => BB.free i
    have lB := BB.lt
    have mB := Nat.lt_succ_of_lt lB
    go_wp2_with fail
    clear cB fB lB mB BB
    go_ret
    exact ⟨by rw [Hr.out]; rfl, HB.out⟩
  have n9 : decide ((ls.length : Int) ≤ 9) = true := by rw [decide_eq_true_iff]; omega
  have HV := Lib.hid (hl.rows (by omega))
  have Hr := Lib.hid (show lossedT b ls = (deskE b ls == 0) by unfold lossedT thinB; rw [hT, decide_eq_true c9, Bool.true_and, Bool.true_and]; exact (Bool.beq_eq_decide_eq _ _).symm)
  clear hT hL hl h8
  go_enter Try.func50, Try.ntmps50
  go_wp2_with fail
  refine (Thin_any _ _ _ _ _ _ _ _ _ (by omega) (by omega)).mono ?_
  rintro e w1 ⟨rfl, hb⟩
  rw [HT.out]
  have HB := Lib.hid (up_later (up_alloc (up0 (w := w)) (.cells #[iv b.n, iv b.w, .slice A1 b.ks.length cap1, .slice A2 b.ds.length cap2] 25)) hb)
  have B1 := Lib.hid ((Box.new (w := w) (t := 25) (cs := #[iv b.n, iv b.w, .slice A1 b.ks.length cap1, .slice A2 b.ds.length cap2]) rfl).kept hb)
  clear hb
  have BB := B1.out
  have cB := fun i => BB.cell i
  have fB := fun i => BB.free i
  have lB := BB.lt
  have mB := Nat.lt_succ_of_lt lB
  go_wp2_with fail
  clear cB fB lB mB BB
  refine (lossy_any _ _ _ b ls _ (HL.out.kept HB.out) (HV.out.kept HB.out)).mono ?_
  rintro e w5 ⟨rfl, hb⟩
  have HB := Lib.hid (up_later HB.out hb)
  clear hb
  go_wp2_with fail
  go_ret
  exact ⟨by rw [Hr.out]; rfl, HB.out⟩

/-- A slice that owns its cells, and has some. -/
theorem own_some {w : World} {n0 e sz n : Nat} {v : Value} {xs : List Value} (h : w.ownsRow n0 e sz v n xs) (hn : 0 < n) : ∃ g p, v = .slice (some ⟨g, 0, none⟩) n p ∧ n0 ≤ g ∧ g < w.heap.size := by
  rcases h.2 with ⟨rfl, rfl⟩ | ⟨g, cap, cur, rfl, hg, hb, _⟩
  · omega
  · refine ⟨g, cap, rfl, hg, ?_⟩
    rcases Nat.lt_or_ge g w.heap.size with h | h
    · exact h
    · rw [Array.getElem?_eq_none h] at hb
      cases hb
/-- One of the numbers of a slice that owns them is put anew. -/
theorem own_int {w : World} {n0 e g i m p k : Nat} {l : List Int} {z : Int} (h : w.ownsRow n0 e 1 (.slice (some ⟨g, 0, none⟩) m p) k (l.map iv)) :
    (w.setCell ⟨g, i, none⟩ (iv z)).ownsRow n0 e 1 (.slice (some ⟨g, 0, none⟩) m p) k ((l.set i z).map iv) := by
  rcases h.2 with ⟨h0, _⟩ | ⟨g', cap', cur, h0, hbg, hg, hnc, hcm, hcs, htk⟩
  · cases h0
  · cases h0
    refine ⟨by rw [List.length_map, List.length_set, ← List.length_map (f := iv)]; exact h.1, .inr ⟨g, p, cur.setIfInBounds i (iv z), rfl, hbg, ?_, hnc, hcm, by simpa using hcs, ?_⟩⟩
    · simp [World.setCell, Array.getElem?_modify, hg]
    · rw [Array.toList_setIfInBounds, List.take_set, htk, List.map_set]
theorem own_far {w : World} {n0 e sz n g i : Nat} {v u : Value} {xs : List Value} (h : w.ownsRow n0 e sz v n xs) (hg : g < n0) : (w.setCell ⟨g, i, none⟩ u).ownsRow n0 e sz v n xs := by
  refine World.ownsRow.kept h (grownBy_set w g i u) ?_
  rcases h.2 with ⟨rfl, _⟩ | ⟨g', cap, cur, rfl, hg', _⟩
  · exact .inl rfl
  · refine .inr fun e => ?_
    have e : g' = g := by simpa [Value.ownBlock] using e
    omega
theorem own_away {w : World} {n0 e sz n g g' i m p : Nat} {u : Value} {xs : List Value} (h : w.ownsRow n0 e sz (.slice (some ⟨g', 0, none⟩) m p) n xs) (hg : g ≠ g') : (w.setCell ⟨g, i, none⟩ u).ownsRow n0 e sz (.slice (some ⟨g', 0, none⟩) m p) n xs := by
  refine World.ownsRow.kept h (grownBy_set w g i u) (.inr fun e => hg ?_)
  simpa [Value.ownBlock] using e.symm
theorem BookAny.kept {w w' : World} {v1 v2 : Value} {b : Bk} (h : BookAny w v1 v2 b) (hb : Below w.heap.size w w') : BookAny w' v1 v2 b := ⟨h.ks.kept hb, h.ds.kept hb⟩
theorem getD_some {l : List Int} {i : Nat} (h : i < l.length) : l[i]? = some (l.getD i 0) := by
  rw [List.getD_eq_getElem?_getD, List.getElem?_eq_getElem h]
  rfl
theorem map_some {l : List Int} {i : Nat} {z : Int} (h : l[i]? = some z) : (l.map iv)[i]? = some (iv z) := by
  rw [List.getElem?_map, h]
  rfl
end Go.Proofs.Ytkhfkmfofhnmdaa
