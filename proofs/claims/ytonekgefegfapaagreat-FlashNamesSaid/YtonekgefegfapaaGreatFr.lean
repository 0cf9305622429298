/-
  WALKS of (Code).valid and CheckCode. Condition: a list of at most 1000 letters.
-/
import Derived.Test.YtonekgefegfapaaGreatFq
namespace Go.Proofs.YtonekgefegfapaaGreat
open Go.RowKit

def fitB (s : ByteArray) : Bool := decide (1 ≤ s.size) && decide (s.size ≤ 4)
def flashB (s : ByteArray) : Bool := s.data.toList.all (hasB [46, 45])
/-- A code that exceeds no limit is as the document describes. -/
def codeB (l : List ByteArray) : Bool := decide (0 < l.length) && (l.all fitB && (l.all flashB && decide l.Nodup))
/-- The error of a code. -/
def codeE (l : List ByteArray) : Int := if 6 < l.length then 3 else if codeB l = false then 1 else 0
set_option maxHeartbeats 400000 in
theorem valid1_any (s : ByteArray) (w : World) : Calls Tryz.prog 73 #[.string s] w fun e w' => e = .returned (.bool (fitB s)) ∧ Below w.heap.size w w' := by
  by_cases h1 : (1 : Int) ≤ (s.size : Int)
  · have Hr := Lib.hid (show decide ((s.size : Int) ≤ 4) = fitB s by
      unfold fitB
      rw [decide_eq_true (show 1 ≤ s.size by omega), Bool.true_and, decide_eq_decide]
      omega)
    go_enter Tryz.func73, Tryz.ntmps73
    go_wp2_with fail
    go_ret
    exact ⟨ret_bool Hr.out, up0⟩
  · have Hr := Lib.hid (show false = fitB s by
      unfold fitB
      rw [decide_eq_false (show ¬ 1 ≤ s.size by omega), Bool.false_and])
    go_enter Tryz.func73, Tryz.ntmps73
    go_wp2_with fail
    go_ret
    exact ⟨ret_bool Hr.out, up0⟩
set_option maxRecDepth 100000 in
set_option maxHeartbeats 1500000 in
theorem valid_any (v : Value) (l : List ByteArray) (w : World) (hl : RowsAt w v 1 sc l) : Calls Tryz.prog 52 #[.agg #[v]] w fun e w' => e = .returned (.bool (codeB l)) ∧ Below w.heap.size w w' := by
  obtain ⟨hlen, A, cap, hv, -, -⟩ := hl.form
  subst hv
  have HL := Lib.hid hl
  clear hl
  by_cases h0 : (0 : Int) < (l.length : Int)
  · cases h1 : l.all fitB with
    | false =>
      have H1 := Lib.hid h1
      have Hr := Lib.hid (show false = codeB l by unfold codeB; rw [h1, Bool.false_and, Bool.and_false])
      clear h1
      go_enter Tryz.func52, Tryz.ntmps52
      have B1 := Box.new (w := w) (t := 30) (cs := #[.slice A l.length cap]) rfl
      have c1 := fun i => B1.cell i
      go_wp2_with fail
      refine (every_fitc _ l (iv 0) fitB _ (HL.out.kept (up_alloc up0 _)) (fun x _ w1 _ => valid1_any x w1)).mono ?_
      rintro e w1 ⟨rfl, hb⟩
      rw [H1.out]
      have hB := up_later (up_alloc up0 _) hb
      have B1 := B1.kept hb
      have c1 := fun i => B1.cell i
      clear hb
      go_wp2_with fail
      go_ret
      exact ⟨ret_bool Hr.out, hB⟩
    | true =>
      have H1 := Lib.hid h1
      cases h2 : l.all flashB with
      | false =>
        have H2 := Lib.hid h2
        have Hr := Lib.hid (show false = codeB l by unfold codeB; rw [h2, Bool.false_and, Bool.and_false, Bool.and_false])
        clear h1 h2
        go_enter Tryz.func52, Tryz.ntmps52
        have B1 := Box.new (w := w) (t := 30) (cs := #[.slice A l.length cap]) rfl
        have c1 := fun i => B1.cell i
        go_wp2_with fail
        refine (every_fitc _ l (iv 0) fitB _ (HL.out.kept (up_alloc up0 _)) (fun x _ w1 _ => valid1_any x w1)).mono ?_
        rintro e w1 ⟨rfl, hb⟩
        rw [H1.out]
        have hB := up_later (up_alloc up0 _) hb
        have B1 := B1.kept hb
        have c1 := fun i => B1.cell i
        clear hb
        go_wp2_with fail
        refine (every_spell _ l (.string ⟨#[46, 45]⟩) flashB _ (HL.out.kept hB) (fun x hx w2 _ => spell_any ⟨#[46, 45]⟩ x w2 (by
          have := List.all_eq_true.1 H1.out x hx
          unfold fitB at this
          simp at this
          omega))).mono ?_
        rintro e w2 ⟨rfl, hb⟩
        rw [H2.out]
        have hB2 := up_later hB hb
        have B1 := B1.kept hb
        have c1 := fun i => B1.cell i
        clear hb
        go_wp2_with fail
        go_ret
        exact ⟨ret_bool Hr.out, hB2⟩
      | true =>
        have H2 := Lib.hid h2
        have Hr := Lib.hid (show decide l.Nodup = codeB l by unfold codeB; rw [h1, h2, decide_eq_true (show 0 < l.length by omega)]; rfl)
        clear h1 h2
        go_enter Tryz.func52, Tryz.ntmps52
        have B1 := Box.new (w := w) (t := 30) (cs := #[.slice A l.length cap]) rfl
        have c1 := fun i => B1.cell i
        go_wp2_with fail
        refine (every_fitc _ l (iv 0) fitB _ (HL.out.kept (up_alloc up0 _)) (fun x _ w1 _ => valid1_any x w1)).mono ?_
        rintro e w1 ⟨rfl, hb⟩
        rw [H1.out]
        have hB := up_later (up_alloc up0 _) hb
        have B1 := B1.kept hb
        have c1 := fun i => B1.cell i
        clear hb
        go_wp2_with fail
        refine (every_spell _ l (.string ⟨#[46, 45]⟩) flashB _ (HL.out.kept hB) (fun x hx w2 _ => spell_any ⟨#[46, 45]⟩ x w2 (by
          have := List.all_eq_true.1 H1.out x hx
          unfold fitB at this
          simp at this
          omega))).mono ?_
        rintro e w2 ⟨rfl, hb⟩
        rw [H2.out]
        have hB2 := up_later hB hb
        have B1 := B1.kept hb
        have c1 := fun i => B1.cell i
        clear hb
        go_wp2_with fail
        refine (differ_strs _ l _ (HL.out.kept hB2)).mono ?_
        rintro e w3 ⟨rfl, hb⟩
        have hB3 := up_later hB2 hb
        rw [Hr.out]
        clear hb
        go_wp2_with fail
        go_ret
        exact ⟨rfl, hB3⟩
  · have Hr := Lib.hid (show false = codeB l by unfold codeB; rw [decide_eq_false (show ¬ 0 < l.length by omega), Bool.false_and])
    go_enter Tryz.func52, Tryz.ntmps52
    have B1 := Box.new (w := w) (t := 30) (cs := #[.slice A l.length cap]) rfl
    have c1 := fun i => B1.cell i
    go_wp2_with fail
    go_ret
    exact ⟨ret_bool Hr.out, up_alloc up0 _⟩
set_option maxRecDepth 100000 in
set_option maxHeartbeats 1500000 in
theorem CheckCode_any (v : Value) (l : List ByteArray) (w : World) (hl : RowsAny w v 1 sc l) : Calls Tryz.prog 20 #[.agg #[v]] w fun e w' => e = .returned (iv (codeE l)) ∧ Below w.heap.size w w' := by
  obtain ⟨A, cap, hv, hcap, hmax⟩ := hl.form
  subst hv
  by_cases h0 : (6 : Int) < (l.length : Int)
  · have Hr := Lib.hid (show codeE l = 3 by unfold codeE; rw [if_pos (by omega)])
    go_enter Tryz.func20, Tryz.ntmps20
    have B1 := Box.new (w := w) (t := 30) (cs := #[.slice A l.length cap]) rfl
    have c1 := fun i => B1.cell i
    go_wp2_with fail
    go_ret
    exact ⟨by rw [Hr.out]; rfl, up_alloc up0 _⟩
  · have HL := Lib.hid (hl.rows (by omega))
    clear hl hcap hmax
    cases hc : codeB l with
    | false =>
      have HC := Lib.hid hc
      have Hr := Lib.hid (show codeE l = 1 by unfold codeE; rw [if_neg (by omega), if_pos hc])
      clear hc
      go_enter Tryz.func20, Tryz.ntmps20
      have B1 := Box.new (w := w) (t := 30) (cs := #[.slice A l.length cap]) rfl
      have c1 := fun i => B1.cell i
      go_wp2_with fail
      refine (valid_any (.slice A l.length cap) l _ (HL.out.kept (up_alloc up0 _))).mono ?_
      rintro e w1 ⟨rfl, hb⟩
      have hB := up_later (up_alloc up0 _) hb
      rw [HC.out]
      clear hb
      go_wp2_with fail
      go_ret
      exact ⟨by rw [Hr.out]; rfl, hB⟩
    | true =>
      have HC := Lib.hid hc
      have Hr := Lib.hid (show codeE l = 0 by unfold codeE; rw [if_neg (by omega), if_neg (by rw [hc]; simp)])
      clear hc
      go_enter Tryz.func20, Tryz.ntmps20
      have B1 := Box.new (w := w) (t := 30) (cs := #[.slice A l.length cap]) rfl
      have c1 := fun i => B1.cell i
      go_wp2_with fail
      refine (valid_any (.slice A l.length cap) l _ (HL.out.kept (up_alloc up0 _))).mono ?_
      rintro e w1 ⟨rfl, hb⟩
      have hB := up_later (up_alloc up0 _) hb
      rw [HC.out]
      clear hb
      go_wp2_with fail
      go_ret
      exact ⟨by rw [Hr.out]; rfl, hB⟩
end Go.Proofs.YtonekgefegfapaaGreat
