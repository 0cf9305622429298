/-
  WALKS of CheckBook and open: the error of a book, and of a book with losses. Conditions: lists have at most 1000 elements.
-/
import Derived.Test.YtkhfkmfofhnmdaaCe
namespace Go.Proofs.Ytkhfkmfofhnmdaa
open Go.RowKit

set_option maxRecDepth 100000 in
set_option maxHeartbeats 2000000 in
theorem CheckBook_any (v1 v2 : Value) (b : Bk) (w : World) (hL : BookAt w v1 v2 b) :
    Calls Try.prog 19 #[bookV b v1 v2] w fun e w' => e = .returned (.int .i64 (bookE b)) ∧ Below w.heap.size w w' := by
  have hB : Below w.heap.size w w := up0
  have HL := Lib.hid hL
  obtain ⟨_, A1, cap1, rfl, _, _⟩ := hL.ks.form
  obtain ⟨_, A2, cap2, rfl, _, _⟩ := hL.ds.form
  clear hL
  cases h1 : exceedsB b with
  | true =>
    have Hfin := Lib.hid (show bookE b = 3 by unfold bookE; rw [h1]; rfl)
    have h1' : (decide (5 < b.ks.length) || decide (8 < b.ds.length)) = true := h1
    clear h1
    unfold bookV
    go_enter Try.func19, Try.ntmps19
    go_wp2_with (go_at_call 52; refine (exceeds_any _ _ _ _ _ _ _ _ _).mono ?_; rintro e w1 ⟨rfl, hb1⟩; obtain ⟨hc1, hf1⟩ := bcell hb1; have hz9 := hb1.size; have hl9 : ∀ b, b < _ → b < w1.heap.size := (fun b h => Nat.lt_of_lt_of_le h hz9); have hz0 := hz9; clear hz9; (try simp at hz0); have hz1 : w.heap.size + 1 ≤ w1.heap.size := (by omega);  clear hz0; have hl0 : w.heap.size < w1.heap.size := (by omega); have hB : Below w.heap.size w w1 := up_later (by repeat (first | exact hB | refine up_alloc ?_ _ | refine up_drew ?_ | refine up_put ?_ (by simp; omega) _)) hb1)
    go_ret
    exact ⟨ret_int Hfin.out.symm, (by repeat (first | exact hB | refine up_alloc ?_ _ | refine up_drew ?_ | refine up_put ?_ (by simp; omega) _))⟩
  | false =>
    have h1' : (decide (5 < b.ks.length) || decide (8 < b.ds.length)) = false := h1
    cases h2 : bookB b with
    | true =>
      have Hfin := Lib.hid (show bookE b = 0 by unfold bookE; rw [h1, h2]; rfl)
      clear h1
      unfold bookV
      go_enter Try.func19, Try.ntmps19
      go_wp2_with (first | (go_at_call 52; refine (exceeds_any _ _ _ _ _ _ _ _ _).mono ?_; rintro e w1 ⟨rfl, hb1⟩; obtain ⟨hc1, hf1⟩ := bcell hb1; have hz9 := hb1.size; have hl9 : ∀ b, b < _ → b < w1.heap.size := (fun b h => Nat.lt_of_lt_of_le h hz9); have hz0 := hz9; clear hz9; (try simp at hz0); have hz1 : w.heap.size + 1 ≤ w1.heap.size := (by omega);  clear hz0; have hl0 : w.heap.size < w1.heap.size := (by omega); have hB : Below w.heap.size w w1 := up_later (by repeat (first | exact hB | refine up_alloc ?_ _ | refine up_drew ?_ | refine up_put ?_ (by simp; omega) _)) hb1) | (go_at_call 53; refine (valid_any _ _ b _ (HL.out.kept (by repeat (first | exact hB | refine up_alloc ?_ _)))).mono ?_; rintro e w1 ⟨rfl, hb1⟩; obtain ⟨hc1, hf1⟩ := bcell hb1; have hz9 := hb1.size; have hl9 : ∀ b, b < _ → b < w1.heap.size := (fun b h => Nat.lt_of_lt_of_le h hz9); have hz0 := hz9; clear hz9; (try simp at hz0); have hz1 : w.heap.size + 1 ≤ w1.heap.size := (by omega);  clear hz0; have hl0 : w.heap.size < w1.heap.size := (by omega); have hB : Below w.heap.size w w1 := up_later (by repeat (first | exact hB | refine up_alloc ?_ _ | refine up_drew ?_ | refine up_put ?_ (by simp; omega) _)) hb1))
      go_ret
      exact ⟨ret_int Hfin.out.symm, (by repeat (first | exact hB | refine up_alloc ?_ _ | refine up_drew ?_ | refine up_put ?_ (by simp; omega) _))⟩
    | false =>
      have Hfin := Lib.hid (show bookE b = 1 by unfold bookE; rw [h1, h2]; rfl)
      clear h1
      unfold bookV
      go_enter Try.func19, Try.ntmps19
      go_wp2_with (first | (go_at_call 52; refine (exceeds_any _ _ _ _ _ _ _ _ _).mono ?_; rintro e w1 ⟨rfl, hb1⟩; obtain ⟨hc1, hf1⟩ := bcell hb1; have hz9 := hb1.size; have hl9 : ∀ b, b < _ → b < w1.heap.size := (fun b h => Nat.lt_of_lt_of_le h hz9); have hz0 := hz9; clear hz9; (try simp at hz0); have hz1 : w.heap.size + 1 ≤ w1.heap.size := (by omega);  clear hz0; have hl0 : w.heap.size < w1.heap.size := (by omega); have hB : Below w.heap.size w w1 := up_later (by repeat (first | exact hB | refine up_alloc ?_ _ | refine up_drew ?_ | refine up_put ?_ (by simp; omega) _)) hb1) | (go_at_call 53; refine (valid_any _ _ b _ (HL.out.kept (by repeat (first | exact hB | refine up_alloc ?_ _)))).mono ?_; rintro e w1 ⟨rfl, hb1⟩; obtain ⟨hc1, hf1⟩ := bcell hb1; have hz9 := hb1.size; have hl9 : ∀ b, b < _ → b < w1.heap.size := (fun b h => Nat.lt_of_lt_of_le h hz9); have hz0 := hz9; clear hz9; (try simp at hz0); have hz1 : w.heap.size + 1 ≤ w1.heap.size := (by omega);  clear hz0; have hl0 : w.heap.size < w1.heap.size := (by omega); have hB : Below w.heap.size w w1 := up_later (by repeat (first | exact hB | refine up_alloc ?_ _ | refine up_drew ?_ | refine up_put ?_ (by simp; omega) _)) hb1))
      go_ret
      exact ⟨ret_int Hfin.out.symm, (by repeat (first | exact hB | refine up_alloc ?_ _ | refine up_drew ?_ | refine up_put ?_ (by simp; omega) _))⟩

def desk0 : Value := .agg #[iv 0, iv 0, .slice none 0 0, .slice none 0 0, .slice none 0 0]
def lossesAt (w : World) (v : Value) (l : List Ls) : Prop := RowsAt w v 2 Ls.cells l

set_option maxRecDepth 100000 in
set_option maxHeartbeats 2000000 in
theorem open_any (v1 v2 v3 : Value) (b : Bk) (ls : List Ls) (w : World) (hL : BookAt w v1 v2 b) (hl : RowsAt w v3 2 Ls.cells ls) :
    Calls Try.prog 55 #[bookV b v1 v2, v3] w fun e w' => e = .returned (.tuple #[if deskE b ls = 0 then deskV b v1 v2 v3 else desk0, iv (deskE b ls)]) ∧ Below w.heap.size w w' := by
  have HL := Lib.hid hL
  have HS := Lib.hid hl
  obtain ⟨_, A1, cap1, rfl, _, _⟩ := hL.ks.form
  obtain ⟨_, A2, cap2, rfl, _, _⟩ := hL.ds.form
  obtain ⟨_, A3, cap3, rfl, _, _⟩ := hl.form
  clear hL hl
  by_cases h1 : bookE b = 0
  case neg =>
    have h1' : (bookE b == 0) = false := by rw [beq_eq_false_iff_ne]; exact h1
    have Hfin := Lib.hid (show deskE b ls = bookE b by unfold deskE; rw [if_pos h1])
    rw [Hfin.out, if_neg h1]
    clear h1
    unfold bookV
    go_enter Try.func55, Try.ntmps55
    go_wp2_with fail
    have hB : Below w.heap.size w ((w.alloc (.cells #[iv b.n, iv b.w, .slice A1 b.ks.length cap1, .slice A2 b.ds.length cap2] 32)).alloc (.cells #[iv 0, iv 0, .slice none 0 0, .slice none 0 0, .slice none 0 0] 98)) := up_alloc (up_alloc up0 _) _
    have HB := Lib.hid hB
    have B2 := Lib.hid ((Box.new (w := w) (t := 32) (cs := #[iv b.n, iv b.w, .slice A1 b.ks.length cap1, .slice A2 b.ds.length cap2]) rfl).alloc (.cells #[iv 0, iv 0, .slice none 0 0, .slice none 0 0, .slice none 0 0] 98))
    have B4 := Lib.hid (Box.new (w := w.alloc (.cells #[iv b.n, iv b.w, .slice A1 b.ks.length cap1, .slice A2 b.ds.length cap2] 32)) (g := w.heap.size + 1) (t := 98) (cs := #[iv 0, iv 0, .slice none 0 0, .slice none 0 0, .slice none 0 0]) (by simp))
    refine (CheckBook_any _ _ b _ (HL.out.kept hB)).mono ?_
    clear hB
    rintro e w1 ⟨rfl, hb⟩
    have HB := Lib.hid (up_later HB.out hb)
    have B2 := Lib.hid (B2.out.kept hb)
    have B4 := Lib.hid (B4.out.kept hb)
    clear hb
    have BB := B4.out
    have cB := fun i => BB.cell i
    have fB := fun i => BB.free i
    have lB := BB.lt
    have mB := Nat.lt_succ_of_lt lB
    go_wp2_with fail
    clear cB fB lB mB BB
    have hB := HB.out
    have N := Box.put5 (u0 := iv 0) (u1 := iv 0) (u2 := .slice none 0 0) (u3 := .slice none 0 0) (u4 := .slice none 0 0) B4.out
    have cN := fun i => N.cell i
    refine bodyPost_ret (v := .tuple #[desk0, iv (bookE b)]) (by simp [results, Try.results55, go_sem, cN, desk0]) rfl ⟨rfl, ?_⟩
    exact up_put (up_put (up_put (up_put (up_put hB (by simp) _) (by simp) _) (by simp) _) (by simp) _) (by simp) _
  have He : Hid (bookE b = 0) := Lib.hid h1
  by_cases h2 : (6 : Int) < (ls.length : Int)
  case pos =>
    have Hfin := Lib.hid (show deskE b ls = 3 by unfold deskE; rw [if_neg (by simp [h1]), if_pos (by omega)])
    clear h1
    rw [Hfin.out, if_neg (by decide)]
    unfold bookV
    go_enter Try.func55, Try.ntmps55
    go_wp2_with fail
    have hB : Below w.heap.size w ((w.alloc (.cells #[iv b.n, iv b.w, .slice A1 b.ks.length cap1, .slice A2 b.ds.length cap2] 32)).alloc (.cells #[iv 0, iv 0, .slice none 0 0, .slice none 0 0, .slice none 0 0] 98)) := up_alloc (up_alloc up0 _) _
    have HB := Lib.hid hB
    have B2 := Lib.hid ((Box.new (w := w) (t := 32) (cs := #[iv b.n, iv b.w, .slice A1 b.ks.length cap1, .slice A2 b.ds.length cap2]) rfl).alloc (.cells #[iv 0, iv 0, .slice none 0 0, .slice none 0 0, .slice none 0 0] 98))
    have B4 := Lib.hid (Box.new (w := w.alloc (.cells #[iv b.n, iv b.w, .slice A1 b.ks.length cap1, .slice A2 b.ds.length cap2] 32)) (g := w.heap.size + 1) (t := 98) (cs := #[iv 0, iv 0, .slice none 0 0, .slice none 0 0, .slice none 0 0]) (by simp))
    refine (CheckBook_any _ _ b _ (HL.out.kept hB)).mono ?_
    clear hB
    rintro e w1 ⟨rfl, hb⟩
    have HB := Lib.hid (up_later HB.out hb)
    have B2 := Lib.hid (B2.out.kept hb)
    have B4 := Lib.hid (B4.out.kept hb)
    clear hb
    rw [He.out]
    have BA := B2.out
    have cA := fun i => BA.cell i
    have fA := fun i => BA.free i
    have lA := BA.lt
    have BB := B4.out
    have cB := fun i => BB.cell i
    have fB := fun i => BB.free i
    have lB := BB.lt
    go_wp2_with fail
    clear cA fA lA BA cB fB lB BB
    have hB := HB.out
    have N := (Box.put5 (u0 := iv 0) (u1 := iv 0) (u2 := .slice none 0 0) (u3 := .slice none 0 0) (u4 := .slice none 0 0) B4.out).alloc (.cells #[iv b.n, iv b.w, .slice A1 b.ks.length cap1, .slice A2 b.ds.length cap2, .slice A3 ls.length cap3] 98)
    have cN := fun i => N.cell i
    refine bodyPost_ret (v := .tuple #[desk0, iv 3]) (by simp [results, Try.results55, go_sem, cN, desk0]) rfl ⟨rfl, ?_⟩
    exact up_alloc (up_put (up_put (up_put (up_put (up_put hB (by simp) _) (by simp) _) (by simp) _) (by simp) _) (by simp) _) _
  cases h3 : ls.all (lossB b)
  case false =>
    have Hfin := Lib.hid (show deskE b ls = 2 by unfold deskE; rw [if_neg (by simp [h1]), if_neg (by omega), if_neg (by simp [h3])])
    have H3 := Lib.hid h3
    clear h1 h3
    rw [Hfin.out, if_neg (by decide)]
    unfold bookV
    go_enter Try.func55, Try.ntmps55
    go_wp2_with fail
    have hB : Below w.heap.size w ((w.alloc (.cells #[iv b.n, iv b.w, .slice A1 b.ks.length cap1, .slice A2 b.ds.length cap2] 32)).alloc (.cells #[iv 0, iv 0, .slice none 0 0, .slice none 0 0, .slice none 0 0] 98)) := up_alloc (up_alloc up0 _) _
    have HB := Lib.hid hB
    have B2 := Lib.hid ((Box.new (w := w) (t := 32) (cs := #[iv b.n, iv b.w, .slice A1 b.ks.length cap1, .slice A2 b.ds.length cap2]) rfl).alloc (.cells #[iv 0, iv 0, .slice none 0 0, .slice none 0 0, .slice none 0 0] 98))
    have B4 := Lib.hid (Box.new (w := w.alloc (.cells #[iv b.n, iv b.w, .slice A1 b.ks.length cap1, .slice A2 b.ds.length cap2] 32)) (g := w.heap.size + 1) (t := 98) (cs := #[iv 0, iv 0, .slice none 0 0, .slice none 0 0, .slice none 0 0]) (by simp))
    refine (CheckBook_any _ _ b _ (HL.out.kept hB)).mono ?_
    clear hB
    rintro e w1 ⟨rfl, hb⟩
    have HB := Lib.hid (up_later HB.out hb)
    have B2 := Lib.hid (B2.out.kept hb)
    have B4 := Lib.hid (B4.out.kept hb)
    clear hb
    rw [He.out]
    have BA := B2.out
    have cA := fun i => BA.cell i
    have fA := fun i => BA.free i
    have lA := BA.lt
    have BB := B4.out
    have cB := fun i => BB.cell i
    have fB := fun i => BB.free i
    have lB := BB.lt
    go_wp2_with fail
    clear cA fA lA BA cB fB lB BB
    have B7 := Lib.hid (Box.new (w := w1) (t := 98) (cs := #[iv b.n, iv b.w, .slice A1 b.ks.length cap1, .slice A2 b.ds.length cap2, .slice A3 ls.length cap3]) rfl)
    have B4 := Lib.hid (B4.out.alloc (.cells #[iv b.n, iv b.w, .slice A1 b.ks.length cap1, .slice A2 b.ds.length cap2, .slice A3 ls.length cap3] 98))
    have HB := Lib.hid (up_alloc HB.out (.cells #[iv b.n, iv b.w, .slice A1 b.ks.length cap1, .slice A2 b.ds.length cap2, .slice A3 ls.length cap3] 98))
    refine (every_loss _ ls _ (lossB b) _ (HS.out.kept HB.out) (fun x _ w1 _ => isLoss_any _ _ _ _ _ _ _ _ x.k x.d w1)).mono ?_
    rintro e w2 ⟨rfl, hb⟩
    rw [H3.out]
    have HB := Lib.hid (up_later HB.out hb)
    have B7 := Lib.hid (B7.out.kept hb)
    have B4 := Lib.hid (B4.out.kept hb)
    clear hb
    have BB := B4.out
    have cB := fun i => BB.cell i
    have fB := fun i => BB.free i
    have lB := BB.lt
    have mB := Nat.lt_succ_of_lt lB
    go_wp2_with fail
    clear cB fB lB mB BB
    have hB := HB.out
    have N := Box.put5 (u0 := iv 0) (u1 := iv 0) (u2 := .slice none 0 0) (u3 := .slice none 0 0) (u4 := .slice none 0 0) B4.out
    have cN := fun i => N.cell i
    refine bodyPost_ret (v := .tuple #[desk0, iv 2]) (by simp [results, Try.results55, go_sem, cN, desk0]) rfl ⟨rfl, ?_⟩
    exact up_put (up_put (up_put (up_put (up_put hB (by simp) _) (by simp) _) (by simp) _) (by simp) _) (by simp) _
  have Hfin := Lib.hid (show deskE b ls = 0 by unfold deskE; rw [if_neg (by simp [h1]), if_neg (by omega), if_pos h3])
  have H3 := Lib.hid h3
  clear h1 h3
  rw [Hfin.out, if_pos rfl]
  unfold bookV deskV
  go_enter Try.func55, Try.ntmps55
  go_wp2_with fail
  have hB : Below w.heap.size w ((w.alloc (.cells #[iv b.n, iv b.w, .slice A1 b.ks.length cap1, .slice A2 b.ds.length cap2] 32)).alloc (.cells #[iv 0, iv 0, .slice none 0 0, .slice none 0 0, .slice none 0 0] 98)) := up_alloc (up_alloc up0 _) _
  have HB := Lib.hid hB
  have B2 := Lib.hid ((Box.new (w := w) (t := 32) (cs := #[iv b.n, iv b.w, .slice A1 b.ks.length cap1, .slice A2 b.ds.length cap2]) rfl).alloc (.cells #[iv 0, iv 0, .slice none 0 0, .slice none 0 0, .slice none 0 0] 98))
  have B4 := Lib.hid (Box.new (w := w.alloc (.cells #[iv b.n, iv b.w, .slice A1 b.ks.length cap1, .slice A2 b.ds.length cap2] 32)) (g := w.heap.size + 1) (t := 98) (cs := #[iv 0, iv 0, .slice none 0 0, .slice none 0 0, .slice none 0 0]) (by simp))
  refine (CheckBook_any _ _ b _ (HL.out.kept hB)).mono ?_
  clear hB
  rintro e w1 ⟨rfl, hb⟩
  have HB := Lib.hid (up_later HB.out hb)
  have B2 := Lib.hid (B2.out.kept hb)
  have B4 := Lib.hid (B4.out.kept hb)
  clear hb
  rw [He.out]
  have BA := B2.out
  have cA := fun i => BA.cell i
  have fA := fun i => BA.free i
  have lA := BA.lt
  have BB := B4.out
  have cB := fun i => BB.cell i
  have fB := fun i => BB.free i
  have lB := BB.lt
  go_wp2_with fail
  clear cA fA lA BA cB fB lB BB
  have hl := B4.out.lt
  have B7 := Lib.hid (Box.new (w := w1) (t := 98) (cs := #[iv b.n, iv b.w, .slice A1 b.ks.length cap1, .slice A2 b.ds.length cap2, .slice A3 ls.length cap3]) rfl)
  have B4 := Lib.hid (B4.out.alloc (.cells #[iv b.n, iv b.w, .slice A1 b.ks.length cap1, .slice A2 b.ds.length cap2, .slice A3 ls.length cap3] 98))
  have HB := Lib.hid (up_alloc HB.out (.cells #[iv b.n, iv b.w, .slice A1 b.ks.length cap1, .slice A2 b.ds.length cap2, .slice A3 ls.length cap3] 98))
  refine (every_loss _ ls _ (lossB b) _ (HS.out.kept HB.out) (fun x _ w1 _ => isLoss_any _ _ _ _ _ _ _ _ x.k x.d w1)).mono ?_
  rintro e w2 ⟨rfl, hb⟩
  rw [H3.out]
  have HB := Lib.hid (up_later HB.out hb)
  have B7 := Lib.hid (B7.out.kept hb)
  have B4 := Lib.hid (B4.out.kept hb)
  clear hb
  have BA := B7.out
  have cA := fun i => BA.cell i
  have fA := fun i => BA.free i
  have lA := BA.lt
  have BB := B4.out
  have cB := fun i => BB.cell i
  have fB := fun i => BB.free i
  have lB := BB.lt
  go_wp2_with fail
  clear cA fA lA BA cB fB lB BB
  have hB := HB.out
  have N := Box.put5 (u0 := iv b.n) (u1 := iv b.w) (u2 := .slice A1 b.ks.length cap1) (u3 := .slice A2 b.ds.length cap2) (u4 := .slice A3 ls.length cap3) B4.out
  have cN := fun i => N.cell i
  refine bodyPost_ret (v := .tuple #[.agg #[iv b.n, iv b.w, .slice A1 b.ks.length cap1, .slice A2 b.ds.length cap2, .slice A3 ls.length cap3], iv 0]) (by simp [results, Try.results55, go_sem, cN]) rfl ⟨rfl, ?_⟩
  exact up_put (up_put (up_put (up_put (up_put hB (by simp) _) (by simp) _) (by simp) _) (by simp) _) (by simp) _

end Go.Proofs.Ytkhfkmfofhnmdaa
