/-
  CipherExposes holds: from when on dispatches can be read is as the reference says, or the error is. No condition.
-/
import Derived.Test.YtkhfkmfofhnmdaaDe
import Derived.Test.YtkhfkmfofhnmdaaDj
import Derived.Test.YtkhfkmfofhnmdaaDm
import Derived.Test.YtkhfkmfofhnmdaaDp
import Derived.Test.YtkhfkmfofhnmdaaDq
namespace Go.Proofs.Ytkhfkmfofhnmdaa
open Go.RowKit Go.Shelf
attribute [local go_sem] Oper.semAt_some

set_option maxRecDepth 100000 in
set_option maxHeartbeats 2000000 in
theorem exposes_law (v1 v2 : Value) (b : Bk) (v : Value) (ls : List Ls) (w : World) (hL : BookAny w v1 v2 b) (hl : RowsAny w v 2 Ls.cells ls) :
    Calls Try.prog 5 #[.agg #[iv b.n, iv b.w, v1, v2], v] w fun e w' => e = .returned (.bool true) ∧ Below w.heap.size w w' := by
  obtain ⟨A1, cap1, rfl, g1, g2⟩ := hL.ks.form
  obtain ⟨A2, cap2, rfl, g3, g4⟩ := hL.ds.form
  obtain ⟨A3, cap3, rfl, g5, g6⟩ := hl.form
  cases hT : (decide (b.ks.length ≤ 8) && decide (b.ds.length ≤ 11)) with
  | false =>
    have HT := Lib.hid hT
    clear hT hL hl
    go_enter Try.func5, Try.ntmps5
    go_wp2_with fail
    refine (Thin_any _ _ _ _ _ _ _ _ _ (by omega) (by omega)).mono ?_
    rintro e w1 ⟨rfl, hb⟩
    rw [HT.out]
    have HB := Lib.hid (up_later (up_alloc (up0 (w := w)) (.cells #[iv b.n, iv b.w, .slice A1 b.ks.length cap1, .slice A2 b.ds.length cap2] 25)) hb)
    have B1 := Lib.hid ((Box.new (w := w) (t := 25) (cs := #[iv b.n, iv b.w, .slice A1 b.ks.length cap1, .slice A2 b.ds.length cap2]) rfl).kept hb)
    clear hb
    have BB := B1.out
    have cB := fun i => BB.cell i
    have fB := fun i => BB.free i
    have lB := BB.lt
    have mB := Nat.lt_succ_of_lt lB
    go_wp2_with fail
    clear cB fB lB mB BB
    refine (awake_any _).mono ?_
    rintro e w2 ⟨rfl, hb⟩
    have HB := Lib.hid (up_later HB.out hb)
    clear hb
    go_wp2_with fail
    go_ret
    exact ⟨rfl, HB.out⟩
  | true =>
  have h8 : b.ks.length ≤ 8 ∧ b.ds.length ≤ 11 := by simpa using hT
  have HT := Lib.hid hT
  have HL := Lib.hid (hL.at h8.1 h8.2)
  have hk8 := h8.1
  have hd11 := h8.2
  clear hT hL h8
  by_cases c9 : 9 < ls.length
  · have n9 : (9 : Int) < (ls.length : Int) := by omega
    clear hl
    go_enter Try.func5, Try.ntmps5
    go_wp2_with fail
    refine (Thin_any _ _ _ _ _ _ _ _ _ (by omega) (by omega)).mono ?_
    rintro e w1 ⟨rfl, hb⟩
    rw [HT.out]
    have HB := Lib.hid (up_later (up_alloc (up0 (w := w)) (.cells #[iv b.n, iv b.w, .slice A1 b.ks.length cap1, .slice A2 b.ds.length cap2] 25)) hb)
    have B1 := Lib.hid ((Box.new (w := w) (t := 25) (cs := #[iv b.n, iv b.w, .slice A1 b.ks.length cap1, .slice A2 b.ds.length cap2]) rfl).kept hb)
    clear hb
    have BB := B1.out
    have cB := fun i => BB.cell i
    have fB := fun i => BB.free i
    have lB := BB.lt
    have mB := Nat.lt_succ_of_lt lB
    go_wp2_with fail
    clear cB fB lB mB BB
    refine (awake_any _).mono ?_
    rintro e w2 ⟨rfl, hb⟩
    have HB := Lib.hid (up_later HB.out hb)
    clear hb
    go_wp2_with fail
    go_ret
    exact ⟨rfl, HB.out⟩
  have n9 : ¬ (9 : Int) < (ls.length : Int) := by omega
  have HV := Lib.hid (hl.rows (by omega))
  clear hl
  by_cases c1 : deskE b ls = 0
  · have HE := Lib.hid c1
    obtain ⟨X, hX⟩ : ∃ X, exposedL b ls = X := ⟨_, rfl⟩
    have HX := Lib.hid (show exposedE b ls = (X, 0) by unfold exposedE; rw [if_neg (by simpa using c1), hX])
    have HXX := Lib.hid hX
    have hXl : X.length ≤ 1000 := by rw [← hX]; unfold exposedL; rw [mapI_len]; omega
    have HXl := Lib.hid hXl
    clear c1 hX hXl
    go_enter Try.func5, Try.ntmps5
    go_wp2_with fail
    refine (Thin_any _ _ _ _ _ _ _ _ _ (by omega) (by omega)).mono ?_
    rintro e w1 ⟨rfl, hb⟩
    rw [HT.out]
    have HB := Lib.hid (up_later (up_alloc (up0 (w := w)) (.cells #[iv b.n, iv b.w, .slice A1 b.ks.length cap1, .slice A2 b.ds.length cap2] 25)) hb)
    have B1 := Lib.hid ((Box.new (w := w) (t := 25) (cs := #[iv b.n, iv b.w, .slice A1 b.ks.length cap1, .slice A2 b.ds.length cap2]) rfl).kept hb)
    clear hb
    have BB := B1.out
    have cB := fun i => BB.cell i
    have fB := fun i => BB.free i
    have lB := BB.lt
    have mB := Nat.lt_succ_of_lt lB
    go_wp2_with fail
    clear cB fB lB mB BB
    refine (Book_any _ _ b _ (HL.out.kept HB.out)).mono ?_
    rintro e w2 ⟨a1, a2, rfl, hq, hb⟩
    have HQ := Lib.hid hq
    clear hq
    have HB := Lib.hid (up_later HB.out hb)
    have B1 := Lib.hid (B1.out.kept hb)
    clear hb
    unfold bookV
    have BB := B1.out
    have cB := fun i => BB.cell i
    have fB := fun i => BB.free i
    have lB := BB.lt
    have mB := Nat.lt_succ_of_lt lB
    go_wp2_with fail
    clear cB fB lB mB BB
    refine (Losses_any _ ls _ (HV.out.kept HB.out)).mono ?_
    rintro e w3 ⟨lv, rfl, hq, hb⟩
    have HP := Lib.hid hq
    have HQ := Lib.hid (HQ.out.kept hb)
    clear hq
    have HB := Lib.hid (up_later HB.out hb)
    have B1 := Lib.hid (B1.out.kept hb)
    clear hb
    have BB := B1.out
    have cB := fun i => BB.cell i
    have fB := fun i => BB.free i
    have lB := BB.lt
    have mB := Nat.lt_succ_of_lt lB
    go_wp2_with fail
    clear cB fB lB mB BB
    refine (Exposed_any _ _ _ b ls _ HQ.out HP.out).mono ?_
    rintro e w4 ⟨xv, rfl, hq, hb⟩
    rw [HX.out] at hq ⊢
    have HQ := Lib.hid hq
    obtain ⟨Ax, px, rfl⟩ := own_form' hq
    clear hq HP
    have HB := Lib.hid (up_later HB.out hb)
    have B1 := Lib.hid (B1.out.kept hb)
    clear hb
    have BB := B1.out
    have cB := fun i => BB.cell i
    have fB := fun i => BB.free i
    have lB := BB.lt
    have mB := Nat.lt_succ_of_lt lB
    go_wp2_with fail
    clear cB fB lB mB BB
    refine (lossy_any _ _ _ b ls _ (HL.out.kept HB.out) (HV.out.kept HB.out)).mono ?_
    rintro e w5 ⟨rfl, hb⟩
    rw [HE.out]
    have HQ := Lib.hid (own_below HQ.out hb)
    have HB := Lib.hid (up_later HB.out hb)
    have B1 := Lib.hid (B1.out.kept hb)
    clear hb
    have BB := B1.out
    have cB := fun i => BB.cell i
    have fB := fun i => BB.free i
    have lB := BB.lt
    have mB := Nat.lt_succ_of_lt lB
    go_wp2_with fail
    clear cB fB lB mB BB
    refine (RExposed_any _ _ _ b ls _ (HL.out.kept HB.out) (HV.out.kept HB.out)).mono ?_
    rintro e w6 ⟨yv, rfl, hq, hb⟩
    rw [HXX.out] at hq
    have HY := Lib.hid hq
    have HQ := Lib.hid (own_below HQ.out hb)
    have HB := Lib.hid (up_later HB.out hb)
    clear hq hb B1
    go_wp2_with fail
    refine (same_any _ _ X X _ (ints_of_own HQ.out rfl HXl.out) HY.out).mono ?_
    rintro e w7 ⟨rfl, hb⟩
    rw [decide_eq_true (p := X = X) rfl]
    have HB := Lib.hid (up_later HB.out hb)
    clear hb
    go_wp2_with fail
    refine (awake_any _).mono ?_
    rintro e w2 ⟨rfl, hb⟩
    have HB := Lib.hid (up_later HB.out hb)
    clear hb
    go_wp2_with fail
    go_ret
    exact ⟨rfl, HB.out⟩
  · obtain ⟨E, hE⟩ : ∃ E, deskE b ls = E := ⟨_, rfl⟩
    have HE := Lib.hid hE
    have HX := Lib.hid (show exposedE b ls = ([], E) by unfold exposedE; rw [if_pos c1, hE])
    have e1 : (E == 0) = false := by rw [beq_eq_false_iff_ne, ← hE]; exact c1
    clear c1 hE
    go_enter Try.func5, Try.ntmps5
    go_wp2_with fail
    refine (Thin_any _ _ _ _ _ _ _ _ _ (by omega) (by omega)).mono ?_
    rintro e w1 ⟨rfl, hb⟩
    rw [HT.out]
    have HB := Lib.hid (up_later (up_alloc (up0 (w := w)) (.cells #[iv b.n, iv b.w, .slice A1 b.ks.length cap1, .slice A2 b.ds.length cap2] 25)) hb)
    have B1 := Lib.hid ((Box.new (w := w) (t := 25) (cs := #[iv b.n, iv b.w, .slice A1 b.ks.length cap1, .slice A2 b.ds.length cap2]) rfl).kept hb)
    clear hb
    have BB := B1.out
    have cB := fun i => BB.cell i
    have fB := fun i => BB.free i
    have lB := BB.lt
    have mB := Nat.lt_succ_of_lt lB
    go_wp2_with fail
    clear cB fB lB mB BB
    refine (Book_any _ _ b _ (HL.out.kept HB.out)).mono ?_
    rintro e w2 ⟨a1, a2, rfl, hq, hb⟩
    have HQ := Lib.hid hq
    clear hq
    have HB := Lib.hid (up_later HB.out hb)
    have B1 := Lib.hid (B1.out.kept hb)
    clear hb
    unfold bookV
    have BB := B1.out
    have cB := fun i => BB.cell i
    have fB := fun i => BB.free i
    have lB := BB.lt
    have mB := Nat.lt_succ_of_lt lB
    go_wp2_with fail
    clear cB fB lB mB BB
    refine (Losses_any _ ls _ (HV.out.kept HB.out)).mono ?_
    rintro e w3 ⟨lv, rfl, hq, hb⟩
    have HP := Lib.hid hq
    have HQ := Lib.hid (HQ.out.kept hb)
    clear hq
    have HB := Lib.hid (up_later HB.out hb)
    have B1 := Lib.hid (B1.out.kept hb)
    clear hb
    have BB := B1.out
    have cB := fun i => BB.cell i
    have fB := fun i => BB.free i
    have lB := BB.lt
    have mB := Nat.lt_succ_of_lt lB
    go_wp2_with fail
    clear cB fB lB mB BB
    refine (Exposed_any _ _ _ b ls _ HQ.out HP.out).mono ?_
    rintro e w4 ⟨xv, rfl, hq, hb⟩
    rw [HX.out] at hq ⊢
    have HQ := Lib.hid hq
    obtain ⟨Ax, px, rfl⟩ := own_form' hq
    clear hq HP
    have HB := Lib.hid (up_later HB.out hb)
    have B1 := Lib.hid (B1.out.kept hb)
    clear hb
    have BB := B1.out
    have cB := fun i => BB.cell i
    have fB := fun i => BB.free i
    have lB := BB.lt
    have mB := Nat.lt_succ_of_lt lB
    go_wp2_with fail
    clear cB fB lB mB BB
    refine (lossy_any _ _ _ b ls _ (HL.out.kept HB.out) (HV.out.kept HB.out)).mono ?_
    rintro e w5 ⟨rfl, hb⟩
    rw [HE.out]
    have HQ := Lib.hid (own_below HQ.out hb)
    have HB := Lib.hid (up_later HB.out hb)
    have B1 := Lib.hid (B1.out.kept hb)
    clear hb
    have BB := B1.out
    have cB := fun i => BB.cell i
    have fB := fun i => BB.free i
    have lB := BB.lt
    have mB := Nat.lt_succ_of_lt lB
    go_wp2_with fail
    clear cB fB lB mB BB
    refine (awake_any _).mono ?_
    rintro e w2 ⟨rfl, hb⟩
    have HB := Lib.hid (up_later HB.out hb)
    clear hb
    go_wp2_with fail
    go_ret
    exact ⟨rfl, HB.out⟩
end Go.Proofs.Ytkhfkmfofhnmdaa

namespace Go.Proofs.Ytkhfkmfofhnmdaa
open Go.ChangeShapes Go.WideShapes Go.ChangeAt Go.RowKit
section
variable {H : Type} {enc : TypeId × Value → H} {W : World} {base : Nat} {spare : Nat → Bool} {held : Bool}
theorem open_loss {fuel : Nat} {cs : List Value} {x : DataW H × List MemPlace} (h : DataW.trod enc Try.prog W base spare held fuel 93 cs = some x) : ∃ k : Ls, cs = k.cells ∧ True := by
  obtain ⟨ns, rfl, hn⟩ := open_ints_of (n := 2) (fs := Try.prog.fieldsOf 93) (by kernel_rfl) (by kernel_rfl) (by kernel_rfl) int3 cell3 h
  rcases ns with _ | ⟨a, _ | ⟨b, _ | ⟨c, r⟩⟩⟩ <;> simp at hn
  exact ⟨⟨a, b⟩, rfl, trivial⟩
theorem open_losses {fuel : Nat} {cs : List Value} {x : DataW H × List MemPlace} (h : DataW.trod enc Try.prog W base spare held fuel 47 cs = some x) : ∃ v l, cs = [v] ∧ RowsAny W v 2 Ls.cells l := by
  obtain ⟨v, l, e, r, _⟩ := open_rows (e := 93) (sz := 2) (cells := Ls.cells) (p := fun _ => True) (by kernel_rfl) (by kernel_rfl) (by omega) (fun _ _ _ h => open_loss h) h
  exact ⟨v, l, e, r⟩
end
theorem rec47 : Try.prog.readableRec 47 = true ∧ 47 < Try.prog.types.size := ⟨by kernel_rfl, by have h : decide (47 < Try.prog.types.size) = true := (by kernel_rfl); exact of_decide_eq_true h⟩
end Go.Proofs.Ytkhfkmfofhnmdaa

namespace Go.Proofs.Ytkhfkmfofhnmdaa
open Go.ChangeShapes Go.WideShapes Go.ChangeAt Go.RowKit

set_option maxRecDepth 100000 in
theorem cipherExposes_lifted (os : Os) (started : os.Started) (H : Type) (enc : TypeId × Value → H) :
    ReturnsInHanded {} Try.checked os 5 .any (Rows.cipherExposesSpec.pre6 enc Try.prog Try.f5 Rows.cipherExposesRow.domain false) (Rows.cipherExposesSpec.post enc Try.prog Try.f5 false true false false) := by
  refine returnsInHanded_of_change (C := Try.checked) own_knob started (by kernel_rfl) Try.func5
    (ChangeSpec.witness6 (enc := enc) (C := Try.checked) false ⟨#[], #[.agg #[.int .i64 0, .int .i64 0, .slice Option.none 0 0, .slice Option.none 0 0], .slice Option.none 0 0], []⟩ 8 (by kernel_rfl) (by kernel_rfl) (by kernel_rfl) (by kernel_rfl)) ?_
  intro W base args ds gs before hval0 hW hcnd _
  have hval : ∀ (j : Nat) t v, Try.f5.params[j]? = some t → args[j]? = some v → Value.okWide Try.prog W .any base t v := hval0
  have hW' := hW
  obtain ⟨p, q, hA0, hV, rfl, hfz, hnd⟩ := hW
  have hA : DataW.TrodAll enc Try.prog W 0 (fun _ => true) true Try.f5.params.toList args.toList ds p := hA0
  rw [Try.params5] at hA hval
  have hlt : ∀ x ∈ p, x.block < W.heap.size := fun x hx => hW'.lt x (List.mem_append_left _ hx)
  have hAk := hA
  obtain ⟨v0, vs0, d0, ds0, p0, q0, hargs, rfl, rfl, h0, r0⟩ := trodAll_cons hA
  obtain ⟨v1, vs1, d1, ds1, p1, q1, rfl, rfl, rfl, h1, r1⟩ := trodAll_cons r0
  obtain ⟨rfl, rfl, rfl⟩ := trodAll_nil r1
  obtain rfl : args = #[v0, v1] := by cases args; simp_all
  obtain ⟨rfl, rfl⟩ := trodVars_none hV
  obtain ⟨cs, rfl, _⟩ := okWide_struct und25 (hval 0 25 v0 rfl rfl)
  obtain ⟨fuel, h0⟩ := h0
  obtain ⟨u1, u2, b, hcs, hL⟩ := open_book h0
  obtain rfl : cs = #[iv b.n, iv b.w, u1, u2] := by
    have h : cs.toList = [iv b.n, iv b.w, u1, u2] := hcs
    cases cs
    simp at h
    rw [h]
  obtain ⟨b0, len, cap, rfl⟩ := okWide_slice (show Try.prog.underlying 47 = some (.slice 93) by kernel_rfl) (hval 1 47 v1 rfl rfl)
  obtain ⟨fuel1, h1⟩ := h1
  obtain ⟨v, l, e1, hl⟩ := open_losses h1
  obtain rfl : v = .slice b0 len cap := by
    have h : [Value.slice b0 len cap] = [v] := e1
    injection h with h _
    exact h.symm
  clear hA0 hval0 hval hA
  simp only [List.append_nil] at hW'
  simp only [List.append_nil] at hAk hlt
  refine (exposes_law u1 u2 b _ l W hL hl).mono fun e W' ⟨he, hg⟩ => ?_
  subst he
  refine ⟨_, rfl, post_below (pv := []) hW' hg (fun _ _ _ => (trodAll_cons_mk (shut_bool Try.underlying4 _) trodAll_mk0)) (fun sp hsp => ?_) (fun _ _ => rfl) (List.append_nil _).symm
    (ok_one (by kernel_rfl) rfl (okWide_bool_mk Try.underlying4 _))⟩
  rw [Try.params5]
  refine args_stay laid_out hg (fun t ht => ?_) hAk hlt sp (fun x hx => hsp x (by first | exact hx | simpa using hx))
  simp only [List.mem_cons, List.not_mem_nil, or_false] at ht
  rcases ht with rfl | rfl
  · exact rec25
  · exact rec47

theorem cipherExposes_over : Rows.cipherExposesRow.holds Try.pinned (OpenSpec.ofChange Rows.cipherExposesSpec) :=
  OpenClaim.holds_of_wide 5 Try.f5 rfl rfl rfl rfl rfl rfl rfl ⟨rfl, rfl, rfl, rfl, rfl⟩ rfl rfl rfl rfl rfl (by kernel_rfl) Try.func5 (by kernel_rfl)
    (of_decide_eq_true (by kernel_rfl)) (by unfold Func.isWrapper; first | (rw [if_pos (by decide +kernel)]; kernel_rfl) | (rw [if_neg (by decide +kernel)]; exact ⟨rfl, rfl⟩))
    (fun os started H enc _ => cipherExposes_lifted os started H enc)

theorem CipherExposes_holds : Rows.CipherExposesSaid := cipherExposes_over

end Go.Proofs.Ytkhfkmfofhnmdaa
