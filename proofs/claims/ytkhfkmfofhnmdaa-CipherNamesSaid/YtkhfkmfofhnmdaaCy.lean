/-
  WALKS of read, '(riddle).agrees'. Conditions: lists have at most 1000 elements.
-/
import Derived.Test.YtkhfkmfofhnmdaaCx
namespace Go.Proofs.Ytkhfkmfofhnmdaa
open Go.RowKit

def guessB (b : Bk) (codes : List Int) (g : Gs) : Bool := belowB g.a codes.length && belowB g.p b.n
/-- The error of codes and guesses. -/
def askE (b : Bk) (codes : List Int) (gs : List Gs) : Int :=
  if bookE b ≠ 0 then bookE b else if 10 < codes.length ∨ 6 < gs.length then 3 else if codes.all (fun x => belowB x b.n) = false ∨ gs.all (guessB b codes) = false then 2 else 0
def riddleV (b : Bk) (v1 v2 v4 v5 : Value) : Value := .agg #[iv b.n, iv b.w, v1, v2, .slice none 0 0, v4, v5]
def riddle0 : Value := .agg #[iv 0, iv 0, .slice none 0 0, .slice none 0 0, .slice none 0 0, .slice none 0 0, .slice none 0 0]

theorem up_put7 {w W : World} (h : Below w.heap.size w W) {b : Nat} (hb : w.heap.size ≤ b) (u0 u1 u2 u3 u4 u5 u6 : Value) : Below w.heap.size w (((((((W.setCell ⟨b, 0, none⟩ u0).setCell ⟨b, 1, none⟩ u1).setCell ⟨b, 2, none⟩ u2).setCell ⟨b, 3, none⟩ u3).setCell ⟨b, 4, none⟩ u4).setCell ⟨b, 5, none⟩ u5).setCell ⟨b, 6, none⟩ u6) :=
  up_put (up_put (up_put (up_put (up_put (up_put (up_put h (p := ⟨b, 0, none⟩) hb _) (p := ⟨b, 1, none⟩) hb _) (p := ⟨b, 2, none⟩) hb _) (p := ⟨b, 3, none⟩) hb _) (p := ⟨b, 4, none⟩) hb _) (p := ⟨b, 5, none⟩) hb _) (p := ⟨b, 6, none⟩) hb _

set_option maxRecDepth 100000 in
set_option maxHeartbeats 1500000 in
theorem read_any (v1 v2 v4 v5 : Value) (b : Bk) (codes : List Int) (gs : List Gs) (w : World) (hL : BookAt w v1 v2 b) (hc : IntsAt w v4 codes) (hg : RowsAt w v5 2 Gs.cells gs) :
    Calls Try.prog 76 #[bookV b v1 v2, v4, v5] w fun e w' => e = .returned (.tuple #[if askE b codes gs = 0 then riddleV b v1 v2 v4 v5 else riddle0, iv (askE b codes gs)]) ∧ Below w.heap.size w w' := by
  obtain ⟨_, A1, cap1, rfl, _, _⟩ := hL.ks.form
  obtain ⟨_, A2, cap2, rfl, _, _⟩ := hL.ds.form
  obtain ⟨_, A4, cap4, rfl, _, _⟩ := hc.form
  obtain ⟨_, A5, cap5, rfl, _, _⟩ := hg.form
  have HL := Lib.hid hL
  have HC := Lib.hid hc
  have HG := Lib.hid hg
  clear hL hc hg
  by_cases c1 : bookE b = 0
  case neg =>
    have C1 := Lib.hid c1
    have c1' : (bookE b == 0) = false := by rw [beq_eq_false_iff_ne]; exact c1
    have Hfin := Lib.hid (show askE b codes gs = bookE b by unfold askE; rw [if_pos c1])
    rw [Hfin.out, if_neg c1]
    clear c1
    unfold bookV
    go_enter Try.func76, Try.ntmps76
    go_wp2_with fail
    have hB : Below w.heap.size w ((w.alloc (.cells #[iv b.n, iv b.w, .slice A1 b.ks.length cap1, .slice A2 b.ds.length cap2] 32)).alloc (.cells #[iv 0, iv 0, .slice none 0 0, .slice none 0 0, .slice none 0 0, .slice none 0 0, .slice none 0 0] 118)) := up_alloc (up_alloc up0 _) _
    have HB := Lib.hid hB
    have B6 := Lib.hid (Box.new (w := w.alloc (.cells #[iv b.n, iv b.w, .slice A1 b.ks.length cap1, .slice A2 b.ds.length cap2] 32)) (g := w.heap.size + 1) (t := 118) (cs := #[iv 0, iv 0, .slice none 0 0, .slice none 0 0, .slice none 0 0, .slice none 0 0, .slice none 0 0]) (by simp))
    refine (open_any _ _ _ b [] _ (HL.out.kept hB) (RowsAt.nil _)).mono ?_
    rintro e w1 ⟨rfl, hb⟩
    rw [deskE_nil, if_neg C1.out]
    unfold desk0
    clear hB
    have HB := Lib.hid (up_later HB.out hb)
    have B6 := Lib.hid (B6.out.kept hb)
    clear hb
    have BB := B6.out
    have cB := fun i => BB.cell i
    have fB := fun i => BB.free i
    have lB := BB.lt
    have mB := Nat.lt_succ_of_lt lB
    go_wp2_with fail
    clear cB fB lB mB BB
    have hB := HB.out
    have N := ((Box.put7 (u0 := iv 0) (u1 := iv 0) (u2 := .slice none 0 0) (u3 := .slice none 0 0) (u4 := .slice none 0 0) (u5 := .slice none 0 0) (u6 := .slice none 0 0) B6.out).alloc (.cells #[iv 0, iv 0, .slice none 0 0, .slice none 0 0, .slice none 0 0] 98))
    have cN := fun i => N.cell i
    refine bodyPost_ret (v := .tuple #[riddle0, iv (bookE b)]) (by simp [results, Try.results76, go_sem, cN, riddle0]) rfl ⟨rfl, ?_⟩
    exact up_alloc (up_put7 hB (by simp) _ _ _ _ _ _ _) _
  have C1 := Lib.hid c1
  have hask : askE b codes gs = if 10 < codes.length ∨ 6 < gs.length then 3 else if codes.all (fun x => belowB x b.n) = false ∨ gs.all (guessB b codes) = false then 2 else 0 := by
    unfold askE; rw [if_neg (by simpa using c1)]
  by_cases c2 : (10 : Int) < (codes.length : Int)
  case pos =>
    have Hfin := Lib.hid (show askE b codes gs = 3 by rw [hask, if_pos (.inl (by omega))])
    rw [Hfin.out, if_neg (by decide)]
    clear c1 hask
    unfold bookV
    go_enter Try.func76, Try.ntmps76
    go_wp2_with fail
    have hB : Below w.heap.size w ((w.alloc (.cells #[iv b.n, iv b.w, .slice A1 b.ks.length cap1, .slice A2 b.ds.length cap2] 32)).alloc (.cells #[iv 0, iv 0, .slice none 0 0, .slice none 0 0, .slice none 0 0, .slice none 0 0, .slice none 0 0] 118)) := up_alloc (up_alloc up0 _) _
    have HB := Lib.hid hB
    have B6 := Lib.hid (Box.new (w := w.alloc (.cells #[iv b.n, iv b.w, .slice A1 b.ks.length cap1, .slice A2 b.ds.length cap2] 32)) (g := w.heap.size + 1) (t := 118) (cs := #[iv 0, iv 0, .slice none 0 0, .slice none 0 0, .slice none 0 0, .slice none 0 0, .slice none 0 0]) (by simp))
    refine (open_any _ _ _ b [] _ (HL.out.kept hB) (RowsAt.nil _)).mono ?_
    rintro e w1 ⟨rfl, hb⟩
    rw [deskE_nil, if_pos C1.out, C1.out]
    unfold deskV
    clear hB
    have HB := Lib.hid (up_later HB.out hb)
    have B6 := Lib.hid (B6.out.kept hb)
    clear hb
    have BB := B6.out
    have cB := fun i => BB.cell i
    have fB := fun i => BB.free i
    have lB := BB.lt
    have mB := Nat.lt_succ_of_lt lB
    go_wp2_with fail
    clear cB fB lB mB BB
    have hB := HB.out
    have N := ((Box.put7 (u0 := iv 0) (u1 := iv 0) (u2 := .slice none 0 0) (u3 := .slice none 0 0) (u4 := .slice none 0 0) (u5 := .slice none 0 0) (u6 := .slice none 0 0) B6.out).alloc (.cells #[iv b.n, iv b.w, .slice A1 b.ks.length cap1, .slice A2 b.ds.length cap2, .slice none 0 0] 98)).alloc (.cells #[iv b.n, iv b.w, .slice A1 b.ks.length cap1, .slice A2 b.ds.length cap2, .slice none 0 0, .slice A4 codes.length cap4, .slice A5 gs.length cap5] 118)
    have cN := fun i => N.cell i
    refine bodyPost_ret (v := .tuple #[riddle0, iv 3]) (by simp [results, Try.results76, go_sem, cN, riddle0]) rfl ⟨rfl, ?_⟩
    exact up_alloc (up_alloc (up_put7 hB (by simp) _ _ _ _ _ _ _) _) _
  by_cases c3 : (6 : Int) < (gs.length : Int)
  case pos =>
    have Hfin := Lib.hid (show askE b codes gs = 3 by rw [hask, if_pos (.inr (by omega))])
    rw [Hfin.out, if_neg (by decide)]
    clear c1 hask
    unfold bookV
    go_enter Try.func76, Try.ntmps76
    go_wp2_with fail
    have hB : Below w.heap.size w ((w.alloc (.cells #[iv b.n, iv b.w, .slice A1 b.ks.length cap1, .slice A2 b.ds.length cap2] 32)).alloc (.cells #[iv 0, iv 0, .slice none 0 0, .slice none 0 0, .slice none 0 0, .slice none 0 0, .slice none 0 0] 118)) := up_alloc (up_alloc up0 _) _
    have HB := Lib.hid hB
    have B6 := Lib.hid (Box.new (w := w.alloc (.cells #[iv b.n, iv b.w, .slice A1 b.ks.length cap1, .slice A2 b.ds.length cap2] 32)) (g := w.heap.size + 1) (t := 118) (cs := #[iv 0, iv 0, .slice none 0 0, .slice none 0 0, .slice none 0 0, .slice none 0 0, .slice none 0 0]) (by simp))
    refine (open_any _ _ _ b [] _ (HL.out.kept hB) (RowsAt.nil _)).mono ?_
    rintro e w1 ⟨rfl, hb⟩
    rw [deskE_nil, if_pos C1.out, C1.out]
    unfold deskV
    clear hB
    have HB := Lib.hid (up_later HB.out hb)
    have B6 := Lib.hid (B6.out.kept hb)
    clear hb
    have BB := B6.out
    have cB := fun i => BB.cell i
    have fB := fun i => BB.free i
    have lB := BB.lt
    have mB := Nat.lt_succ_of_lt lB
    go_wp2_with fail
    clear cB fB lB mB BB
    have hB := HB.out
    have N := ((Box.put7 (u0 := iv 0) (u1 := iv 0) (u2 := .slice none 0 0) (u3 := .slice none 0 0) (u4 := .slice none 0 0) (u5 := .slice none 0 0) (u6 := .slice none 0 0) B6.out).alloc (.cells #[iv b.n, iv b.w, .slice A1 b.ks.length cap1, .slice A2 b.ds.length cap2, .slice none 0 0] 98)).alloc (.cells #[iv b.n, iv b.w, .slice A1 b.ks.length cap1, .slice A2 b.ds.length cap2, .slice none 0 0, .slice A4 codes.length cap4, .slice A5 gs.length cap5] 118)
    have cN := fun i => N.cell i
    refine bodyPost_ret (v := .tuple #[riddle0, iv 3]) (by simp [results, Try.results76, go_sem, cN, riddle0]) rfl ⟨rfl, ?_⟩
    exact up_alloc (up_alloc (up_put7 hB (by simp) _ _ _ _ _ _ _) _) _
  cases c4 : codes.all (fun x => belowB x b.n)
  case false =>
    have Hfin := Lib.hid (show askE b codes gs = 2 by rw [hask, if_neg (by omega), if_pos (.inl c4)])
    have C4 := Lib.hid c4
    rw [Hfin.out, if_neg (by decide)]
    clear c1 c4 hask
    unfold bookV
    go_enter Try.func76, Try.ntmps76
    go_wp2_with fail
    have hB : Below w.heap.size w ((w.alloc (.cells #[iv b.n, iv b.w, .slice A1 b.ks.length cap1, .slice A2 b.ds.length cap2] 32)).alloc (.cells #[iv 0, iv 0, .slice none 0 0, .slice none 0 0, .slice none 0 0, .slice none 0 0, .slice none 0 0] 118)) := up_alloc (up_alloc up0 _) _
    have HB := Lib.hid hB
    have B6 := Lib.hid (Box.new (w := w.alloc (.cells #[iv b.n, iv b.w, .slice A1 b.ks.length cap1, .slice A2 b.ds.length cap2] 32)) (g := w.heap.size + 1) (t := 118) (cs := #[iv 0, iv 0, .slice none 0 0, .slice none 0 0, .slice none 0 0, .slice none 0 0, .slice none 0 0]) (by simp))
    refine (open_any _ _ _ b [] _ (HL.out.kept hB) (RowsAt.nil _)).mono ?_
    rintro e w1 ⟨rfl, hb⟩
    rw [deskE_nil, if_pos C1.out, C1.out]
    unfold deskV
    clear hB
    have HB := Lib.hid (up_later HB.out hb)
    have B6 := Lib.hid (B6.out.kept hb)
    clear hb
    have BB := B6.out
    have cB := fun i => BB.cell i
    have fB := fun i => BB.free i
    have lB := BB.lt
    have mB := Nat.lt_succ_of_lt lB
    go_wp2_with fail
    clear cB fB lB mB BB
    have hl6 := B6.out.lt
    have B8 := Lib.hid ((Box.new (w := w1) (t := 98) (cs := #[iv b.n, iv b.w, .slice A1 b.ks.length cap1, .slice A2 b.ds.length cap2, .slice none 0 0]) rfl).alloc (.cells #[iv b.n, iv b.w, .slice A1 b.ks.length cap1, .slice A2 b.ds.length cap2, .slice none 0 0, .slice A4 codes.length cap4, .slice A5 gs.length cap5] 118))
    have B10 := Lib.hid (Box.new (w := w1.alloc (.cells #[iv b.n, iv b.w, .slice A1 b.ks.length cap1, .slice A2 b.ds.length cap2, .slice none 0 0] 98)) (g := w1.heap.size + 1) (t := 118) (cs := #[iv b.n, iv b.w, .slice A1 b.ks.length cap1, .slice A2 b.ds.length cap2, .slice none 0 0, .slice A4 codes.length cap4, .slice A5 gs.length cap5]) (by simp))
    have B6 := Lib.hid ((B6.out.alloc (.cells #[iv b.n, iv b.w, .slice A1 b.ks.length cap1, .slice A2 b.ds.length cap2, .slice none 0 0] 98)).alloc (.cells #[iv b.n, iv b.w, .slice A1 b.ks.length cap1, .slice A2 b.ds.length cap2, .slice none 0 0, .slice A4 codes.length cap4, .slice A5 gs.length cap5] 118))
    have HB := Lib.hid (up_alloc (up_alloc HB.out (.cells #[iv b.n, iv b.w, .slice A1 b.ks.length cap1, .slice A2 b.ds.length cap2, .slice none 0 0] 98)) (.cells #[iv b.n, iv b.w, .slice A1 b.ks.length cap1, .slice A2 b.ds.length cap2, .slice none 0 0, .slice A4 codes.length cap4, .slice A5 gs.length cap5] 118))
    refine (every_plain _ codes _ (fun x => belowB x b.n) _ (HC.out.kept HB.out) (fun x _ w1 _ => isPlain_any _ _ _ _ x w1)).mono ?_
    rintro e w2 ⟨rfl, hb⟩
    rw [C4.out]
    have HB := Lib.hid (up_later HB.out hb)
    have B6 := Lib.hid (B6.out.kept hb)
    have B8 := Lib.hid (B8.out.kept hb)
    have B10 := Lib.hid (B10.out.kept hb)
    clear hb
    have BA := B6.out
    have cA := fun i => BA.cell i
    have fA := fun i => BA.free i
    have lA := BA.lt
    have BB := B8.out
    have cB := fun i => BB.cell i
    have fB := fun i => BB.free i
    have lB := BB.lt
    have BC := B10.out
    have cC := fun i => BC.cell i
    have fC := fun i => BC.free i
    have lC := BC.lt
    go_wp2_with fail
    clear cA fA lA BA cB fB lB BB cC fC lC BC
    have hB := HB.out
    have N := ((Box.put7 (u0 := iv 0) (u1 := iv 0) (u2 := .slice none 0 0) (u3 := .slice none 0 0) (u4 := .slice none 0 0) (u5 := .slice none 0 0) (u6 := .slice none 0 0) B6.out))
    have cN := fun i => N.cell i
    refine bodyPost_ret (v := .tuple #[riddle0, iv 2]) (by simp [results, Try.results76, go_sem, cN, riddle0]) rfl ⟨rfl, ?_⟩
    exact up_put7 hB (by simp) _ _ _ _ _ _ _
  have C4 := Lib.hid c4
  cases c5 : gs.all (guessB b codes)
  case false =>
    have Hfin := Lib.hid (show askE b codes gs = 2 by rw [hask, if_neg (by omega), if_pos (.inr c5)])
    have C5 := Lib.hid c5
    rw [Hfin.out, if_neg (by decide)]
    clear c1 c4 c5 hask
    unfold bookV
    go_enter Try.func76, Try.ntmps76
    go_wp2_with fail
    have hB : Below w.heap.size w ((w.alloc (.cells #[iv b.n, iv b.w, .slice A1 b.ks.length cap1, .slice A2 b.ds.length cap2] 32)).alloc (.cells #[iv 0, iv 0, .slice none 0 0, .slice none 0 0, .slice none 0 0, .slice none 0 0, .slice none 0 0] 118)) := up_alloc (up_alloc up0 _) _
    have HB := Lib.hid hB
    have B6 := Lib.hid (Box.new (w := w.alloc (.cells #[iv b.n, iv b.w, .slice A1 b.ks.length cap1, .slice A2 b.ds.length cap2] 32)) (g := w.heap.size + 1) (t := 118) (cs := #[iv 0, iv 0, .slice none 0 0, .slice none 0 0, .slice none 0 0, .slice none 0 0, .slice none 0 0]) (by simp))
    refine (open_any _ _ _ b [] _ (HL.out.kept hB) (RowsAt.nil _)).mono ?_
    rintro e w1 ⟨rfl, hb⟩
    rw [deskE_nil, if_pos C1.out, C1.out]
    unfold deskV
    clear hB
    have HB := Lib.hid (up_later HB.out hb)
    have B6 := Lib.hid (B6.out.kept hb)
    clear hb
    have BB := B6.out
    have cB := fun i => BB.cell i
    have fB := fun i => BB.free i
    have lB := BB.lt
    have mB := Nat.lt_succ_of_lt lB
    go_wp2_with fail
    clear cB fB lB mB BB
    have hl6 := B6.out.lt
    have B8 := Lib.hid ((Box.new (w := w1) (t := 98) (cs := #[iv b.n, iv b.w, .slice A1 b.ks.length cap1, .slice A2 b.ds.length cap2, .slice none 0 0]) rfl).alloc (.cells #[iv b.n, iv b.w, .slice A1 b.ks.length cap1, .slice A2 b.ds.length cap2, .slice none 0 0, .slice A4 codes.length cap4, .slice A5 gs.length cap5] 118))
    have B10 := Lib.hid (Box.new (w := w1.alloc (.cells #[iv b.n, iv b.w, .slice A1 b.ks.length cap1, .slice A2 b.ds.length cap2, .slice none 0 0] 98)) (g := w1.heap.size + 1) (t := 118) (cs := #[iv b.n, iv b.w, .slice A1 b.ks.length cap1, .slice A2 b.ds.length cap2, .slice none 0 0, .slice A4 codes.length cap4, .slice A5 gs.length cap5]) (by simp))
    have B6 := Lib.hid ((B6.out.alloc (.cells #[iv b.n, iv b.w, .slice A1 b.ks.length cap1, .slice A2 b.ds.length cap2, .slice none 0 0] 98)).alloc (.cells #[iv b.n, iv b.w, .slice A1 b.ks.length cap1, .slice A2 b.ds.length cap2, .slice none 0 0, .slice A4 codes.length cap4, .slice A5 gs.length cap5] 118))
    have HB := Lib.hid (up_alloc (up_alloc HB.out (.cells #[iv b.n, iv b.w, .slice A1 b.ks.length cap1, .slice A2 b.ds.length cap2, .slice none 0 0] 98)) (.cells #[iv b.n, iv b.w, .slice A1 b.ks.length cap1, .slice A2 b.ds.length cap2, .slice none 0 0, .slice A4 codes.length cap4, .slice A5 gs.length cap5] 118))
    refine (every_plain _ codes _ (fun x => belowB x b.n) _ (HC.out.kept HB.out) (fun x _ w1 _ => isPlain_any _ _ _ _ x w1)).mono ?_
    rintro e w2 ⟨rfl, hb⟩
    rw [C4.out]
    have HB := Lib.hid (up_later HB.out hb)
    have B6 := Lib.hid (B6.out.kept hb)
    have B8 := Lib.hid (B8.out.kept hb)
    have B10 := Lib.hid (B10.out.kept hb)
    clear hb
    have BA := B6.out
    have cA := fun i => BA.cell i
    have fA := fun i => BA.free i
    have lA := BA.lt
    have BB := B8.out
    have cB := fun i => BB.cell i
    have fB := fun i => BB.free i
    have lB := BB.lt
    have BC := B10.out
    have cC := fun i => BC.cell i
    have fC := fun i => BC.free i
    have lC := BC.lt
    go_wp2_with fail
    clear cA fA lA BA cB fB lB BB cC fC lC BC
    refine (every_guess _ gs _ (guessB b codes) _ (HG.out.kept HB.out) (fun x _ w1 _ => isGuess_any _ _ _ _ _ _ _ _ _ x.a x.p w1)).mono ?_
    rintro e w3 ⟨rfl, hb⟩
    rw [C5.out]
    have HB := Lib.hid (up_later HB.out hb)
    have B6 := Lib.hid (B6.out.kept hb)
    have B8 := Lib.hid (B8.out.kept hb)
    have B10 := Lib.hid (B10.out.kept hb)
    clear hb
    have BB := B6.out
    have cB := fun i => BB.cell i
    have fB := fun i => BB.free i
    have lB := BB.lt
    have mB := Nat.lt_succ_of_lt lB
    go_wp2_with fail
    clear cB fB lB mB BB
    have hB := HB.out
    have N := ((Box.put7 (u0 := iv 0) (u1 := iv 0) (u2 := .slice none 0 0) (u3 := .slice none 0 0) (u4 := .slice none 0 0) (u5 := .slice none 0 0) (u6 := .slice none 0 0) B6.out))
    have cN := fun i => N.cell i
    refine bodyPost_ret (v := .tuple #[riddle0, iv 2]) (by simp [results, Try.results76, go_sem, cN, riddle0]) rfl ⟨rfl, ?_⟩
    exact up_put7 hB (by simp) _ _ _ _ _ _ _
  have Hfin := Lib.hid (show askE b codes gs = 0 by rw [hask, if_neg (by omega), if_neg (by simp [c4, c5])])
  have C5 := Lib.hid c5
  rw [Hfin.out, if_pos rfl]
  clear c1 c4 c5 hask
  unfold riddleV
  unfold bookV
  go_enter Try.func76, Try.ntmps76
  go_wp2_with fail
  have hB : Below w.heap.size w ((w.alloc (.cells #[iv b.n, iv b.w, .slice A1 b.ks.length cap1, .slice A2 b.ds.length cap2] 32)).alloc (.cells #[iv 0, iv 0, .slice none 0 0, .slice none 0 0, .slice none 0 0, .slice none 0 0, .slice none 0 0] 118)) := up_alloc (up_alloc up0 _) _
  have HB := Lib.hid hB
  have B6 := Lib.hid (Box.new (w := w.alloc (.cells #[iv b.n, iv b.w, .slice A1 b.ks.length cap1, .slice A2 b.ds.length cap2] 32)) (g := w.heap.size + 1) (t := 118) (cs := #[iv 0, iv 0, .slice none 0 0, .slice none 0 0, .slice none 0 0, .slice none 0 0, .slice none 0 0]) (by simp))
  refine (open_any _ _ _ b [] _ (HL.out.kept hB) (RowsAt.nil _)).mono ?_
  rintro e w1 ⟨rfl, hb⟩
  rw [deskE_nil, if_pos C1.out, C1.out]
  unfold deskV
  clear hB
  have HB := Lib.hid (up_later HB.out hb)
  have B6 := Lib.hid (B6.out.kept hb)
  clear hb
  have BB := B6.out
  have cB := fun i => BB.cell i
  have fB := fun i => BB.free i
  have lB := BB.lt
  have mB := Nat.lt_succ_of_lt lB
  go_wp2_with fail
  clear cB fB lB mB BB
  have hl6 := B6.out.lt
  have B8 := Lib.hid ((Box.new (w := w1) (t := 98) (cs := #[iv b.n, iv b.w, .slice A1 b.ks.length cap1, .slice A2 b.ds.length cap2, .slice none 0 0]) rfl).alloc (.cells #[iv b.n, iv b.w, .slice A1 b.ks.length cap1, .slice A2 b.ds.length cap2, .slice none 0 0, .slice A4 codes.length cap4, .slice A5 gs.length cap5] 118))
  have B10 := Lib.hid (Box.new (w := w1.alloc (.cells #[iv b.n, iv b.w, .slice A1 b.ks.length cap1, .slice A2 b.ds.length cap2, .slice none 0 0] 98)) (g := w1.heap.size + 1) (t := 118) (cs := #[iv b.n, iv b.w, .slice A1 b.ks.length cap1, .slice A2 b.ds.length cap2, .slice none 0 0, .slice A4 codes.length cap4, .slice A5 gs.length cap5]) (by simp))
  have B6 := Lib.hid ((B6.out.alloc (.cells #[iv b.n, iv b.w, .slice A1 b.ks.length cap1, .slice A2 b.ds.length cap2, .slice none 0 0] 98)).alloc (.cells #[iv b.n, iv b.w, .slice A1 b.ks.length cap1, .slice A2 b.ds.length cap2, .slice none 0 0, .slice A4 codes.length cap4, .slice A5 gs.length cap5] 118))
  have HB := Lib.hid (up_alloc (up_alloc HB.out (.cells #[iv b.n, iv b.w, .slice A1 b.ks.length cap1, .slice A2 b.ds.length cap2, .slice none 0 0] 98)) (.cells #[iv b.n, iv b.w, .slice A1 b.ks.length cap1, .slice A2 b.ds.length cap2, .slice none 0 0, .slice A4 codes.length cap4, .slice A5 gs.length cap5] 118))
  refine (every_plain _ codes _ (fun x => belowB x b.n) _ (HC.out.kept HB.out) (fun x _ w1 _ => isPlain_any _ _ _ _ x w1)).mono ?_
  rintro e w2 ⟨rfl, hb⟩
  rw [C4.out]
  have HB := Lib.hid (up_later HB.out hb)
  have B6 := Lib.hid (B6.out.kept hb)
  have B8 := Lib.hid (B8.out.kept hb)
  have B10 := Lib.hid (B10.out.kept hb)
  clear hb
  have BA := B6.out
  have cA := fun i => BA.cell i
  have fA := fun i => BA.free i
  have lA := BA.lt
  have BB := B8.out
  have cB := fun i => BB.cell i
  have fB := fun i => BB.free i
  have lB := BB.lt
  have BC := B10.out
  have cC := fun i => BC.cell i
  have fC := fun i => BC.free i
  have lC := BC.lt
  go_wp2_with fail
  clear cA fA lA BA cB fB lB BB cC fC lC BC
  refine (every_guess _ gs _ (guessB b codes) _ (HG.out.kept HB.out) (fun x _ w1 _ => isGuess_any _ _ _ _ _ _ _ _ _ x.a x.p w1)).mono ?_
  rintro e w3 ⟨rfl, hb⟩
  rw [C5.out]
  have HB := Lib.hid (up_later HB.out hb)
  have B6 := Lib.hid (B6.out.kept hb)
  have B8 := Lib.hid (B8.out.kept hb)
  have B10 := Lib.hid (B10.out.kept hb)
  clear hb
  have BA := B6.out
  have cA := fun i => BA.cell i
  have fA := fun i => BA.free i
  have lA := BA.lt
  have BB := B10.out
  have cB := fun i => BB.cell i
  have fB := fun i => BB.free i
  have lB := BB.lt
  go_wp2_with fail
  clear cA fA lA BA cB fB lB BB
  have hB := HB.out
  have N := Box.put7 (u0 := iv b.n) (u1 := iv b.w) (u2 := .slice A1 b.ks.length cap1) (u3 := .slice A2 b.ds.length cap2) (u4 := .slice none 0 0) (u5 := .slice A4 codes.length cap4) (u6 := .slice A5 gs.length cap5) B6.out
  have cN := fun i => N.cell i
  refine bodyPost_ret (v := .tuple #[.agg #[iv b.n, iv b.w, .slice A1 b.ks.length cap1, .slice A2 b.ds.length cap2, .slice none 0 0, .slice A4 codes.length cap4, .slice A5 gs.length cap5], iv 0]) (by simp [results, Try.results76, go_sem, cN]) rfl ⟨rfl, ?_⟩
  exact up_put7 hB (by simp) _ _ _ _ _ _ _

end Go.Proofs.Ytkhfkmfofhnmdaa
