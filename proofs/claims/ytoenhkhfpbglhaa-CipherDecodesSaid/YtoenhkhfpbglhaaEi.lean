/-
  CipherDecodes holds: the text of a dispatch, its words, and the error are as the reference says. No condition.
-/
import Derived.Test.YtoenhkhfpbglhaaEh
import Derived.Test.YtoenhkhfpbglhaaDe
namespace Go.Proofs.Ytoenhkhfpbglhaa
open Go.RowKit Go.Shelf
attribute [local go_sem] Oper.semAt_some

set_option maxRecDepth 100000 in
set_option maxHeartbeats 3000000 in
theorem decodes_law (v1 v2 : Value) (b : Bk) (day : Int) (v : Value) (l : List Int) (w : World) (hL : BookAny w v1 v2 b) (hl : RowsAny w v 1 ic l) :
    Calls Try.prog 4 #[.agg #[iv b.n, iv b.w, v1, v2], iv day, v] w fun e w' => e = .returned (.bool true) ∧ Below w.heap.size w w' := by
  obtain ⟨A1, cap1, rfl, g1, g2⟩ := hL.ks.form
  obtain ⟨A2, cap2, rfl, g3, g4⟩ := hL.ds.form
  obtain ⟨A3, cap3, rfl, g5, g6⟩ := hl.form
  cases hT : (decide (b.ks.length ≤ 8) && decide (b.ds.length ≤ 11)) with
  | false =>
    have HT := Lib.hid hT
    clear hT hL hl
    go_enter Try.func4, Try.ntmps4
    go_wp2_with fail
    refine (Thin_any _ _ _ _ _ _ _ _ _ (by omega) (by omega)).mono ?_
    rintro e w1 ⟨rfl, hb⟩
    rw [HT.out]
    have HB := Lib.hid (up_later (up_alloc (up0 (w := w)) (.cells #[iv b.n, iv b.w, .slice A1 b.ks.length cap1, .slice A2 b.ds.length cap2] 25)) hb)
    have B1 := Lib.hid ((Box.new (w := w) (t := 25) (cs := #[iv b.n, iv b.w, .slice A1 b.ks.length cap1, .slice A2 b.ds.length cap2]) rfl).kept hb)
    clear hb
    have BB := B1.out
    have cB := fun i => BB.cell i
    have fB := fun i => BB.free i
    have lB := BB.lt
    have mB := Nat.lt_succ_of_lt lB
    go_wp2_with fail
    clear cB fB lB mB BB
    refine (awake_any _).mono ?_
    rintro e w9 ⟨rfl, hb⟩
    go_wp2_with fail
    go_ret
    exact ⟨rfl, up_later HB.out hb⟩
  | true =>
  have h8 : b.ks.length ≤ 8 ∧ b.ds.length ≤ 11 := by simpa using hT
  have HT := Lib.hid hT
  have HL := Lib.hid (hL.at h8.1 h8.2)
  have hk8 := h8.1
  have hd11 := h8.2
  clear hT hL h8
  by_cases c13 : 15 < l.length
  · have n13 : (15 : Int) < (l.length : Int) := by omega
    clear hl
    go_enter Try.func4, Try.ntmps4
    go_wp2_with fail
    refine (Thin_any _ _ _ _ _ _ _ _ _ (by omega) (by omega)).mono ?_
    rintro e w1 ⟨rfl, hb⟩
    rw [HT.out]
    have HB := Lib.hid (up_later (up_alloc (up0 (w := w)) (.cells #[iv b.n, iv b.w, .slice A1 b.ks.length cap1, .slice A2 b.ds.length cap2] 25)) hb)
    have B1 := Lib.hid ((Box.new (w := w) (t := 25) (cs := #[iv b.n, iv b.w, .slice A1 b.ks.length cap1, .slice A2 b.ds.length cap2]) rfl).kept hb)
    clear hb
    have BB := B1.out
    have cB := fun i => BB.cell i
    have fB := fun i => BB.free i
    have lB := BB.lt
    have mB := Nat.lt_succ_of_lt lB
    go_wp2_with fail
    clear cB fB lB mB BB
    refine (awake_any _).mono ?_
    rintro e w9 ⟨rfl, hb⟩
    go_wp2_with fail
    go_ret
    exact ⟨rfl, up_later HB.out hb⟩
  have n13 : ¬ (15 : Int) < (l.length : Int) := by omega
  have HV := Lib.hid (hl.rows (by omega))
  clear hl
  have hW : IntKind.i64.wrap ((b.ds.length : Int) - 1) = (b.ds.length : Int) - 1 := wrapK_in _ 1000 (by omega) (by omega)
  by_cases c1 : bookE b = 0
  case neg =>
    obtain ⟨E, hE⟩ : ∃ E, bookE b = E := ⟨_, rfl⟩
    have HE := Lib.hid hE
    have HCE := Lib.hid (show decodeE b day l = ([], [], E) by unfold decodeE; rw [if_pos c1, hE])
    rw [hE] at c1
    have e1 : (E == 0) = false := by rw [beq_eq_false_iff_ne]; exact c1
    clear c1 hE
    go_enter Try.func4, Try.ntmps4
    go_wp2_with fail
    refine (Thin_any _ _ _ _ _ _ _ _ _ (by omega) (by omega)).mono ?_
    rintro e w1 ⟨rfl, hb⟩
    rw [HT.out]
    have HB := Lib.hid (up_later (up_alloc (up0 (w := w)) (.cells #[iv b.n, iv b.w, .slice A1 b.ks.length cap1, .slice A2 b.ds.length cap2] 25)) hb)
    have B1 := Lib.hid ((Box.new (w := w) (t := 25) (cs := #[iv b.n, iv b.w, .slice A1 b.ks.length cap1, .slice A2 b.ds.length cap2]) rfl).kept hb)
    clear hb
    have BB := B1.out
    have cB := fun i => BB.cell i
    have fB := fun i => BB.free i
    have lB := BB.lt
    have mB := Nat.lt_succ_of_lt lB
    go_wp2_with fail
    clear cB fB lB mB BB
    refine (Book_any _ _ b _ (HL.out.kept HB.out)).mono ?_
    rintro e w2 ⟨a1, a2, rfl, hq, hb⟩
    have HQ := Lib.hid hq
    clear hq
    have HB := Lib.hid (up_later HB.out hb)
    have B1 := Lib.hid (B1.out.kept hb)
    clear hb
    unfold bookV
    have BB := B1.out
    have cB := fun i => BB.cell i
    have fB := fun i => BB.free i
    have lB := BB.lt
    have mB := Nat.lt_succ_of_lt lB
    go_wp2_with fail
    clear cB fB lB mB BB
    refine (list_any _ l _ (HV.out.kept HB.out)).mono ?_
    rintro e w3 ⟨lv, rfl, hq, hb⟩
    have HP := Lib.hid hq
    clear hq
    have HB := Lib.hid (up_later HB.out hb)
    have B1 := Lib.hid (B1.out.kept hb)
    have HQ := Lib.hid (HQ.out.kept hb)
    clear hb
    have BB := B1.out
    have cB := fun i => BB.cell i
    have fB := fun i => BB.free i
    have lB := BB.lt
    have mB := Nat.lt_succ_of_lt lB
    go_wp2_with fail
    clear cB fB lB mB BB
    refine (Decode_any _ _ _ b day l _ HQ.out HP.out).mono ?_
    rintro e w4 ⟨pv, wv, rfl, hp, hwv, hb⟩
    rw [HCE.out] at hp hwv ⊢
    obtain ⟨_, Ap, cp, rfl, _, _⟩ := hp.form
    obtain ⟨_, Aw, cw, rfl, _, _⟩ := hwv.form
    have HPV := Lib.hid hp
    have HWV := Lib.hid hwv
    clear hp hwv HQ HP
    have HB := Lib.hid (up_later HB.out hb)
    have B1 := Lib.hid (B1.out.kept hb)
    clear hb
    have BB := B1.out
    have cB := fun i => BB.cell i
    have fB := fun i => BB.free i
    have lB := BB.lt
    have mB := Nat.lt_succ_of_lt lB
    go_wp2_with fail
    clear cB fB lB mB BB
    refine (Lfault_any _ _ b _ (HL.out.kept HB.out)).mono ?_
    rintro e w5 ⟨rfl, hb⟩
    rw [HE.out]
    have HPV := Lib.hid (HPV.out.kept hb)
    have HWV := Lib.hid (HWV.out.kept hb)
    have HB := Lib.hid (up_later HB.out hb)
    have B1 := Lib.hid (B1.out.kept hb)
    clear hb
    have BB := B1.out
    have cB := fun i => BB.cell i
    have fB := fun i => BB.free i
    have lB := BB.lt
    have mB := Nat.lt_succ_of_lt lB
    go_wp2_with fail
    clear cB fB lB mB BB
    refine (awake_any _).mono ?_
    rintro e w9 ⟨rfl, hb⟩
    go_wp2_with fail
    go_ret
    exact ⟨rfl, up_later HB.out hb⟩
  have HE := Lib.hid c1
  have hok := BookOK.of c1
  cases c2 : belowB day b.ds.length with
  | false =>
    have HIn := Lib.hid (show inB 0 ((b.ds.length : Int) - 1) day = false by rw [inB_below]; exact c2)
    have HCE := Lib.hid (show decodeE b day l = ([], [], 2) by unfold decodeE; rw [if_neg (by simpa using c1), if_pos c2])
    clear c1 c2 hok
    go_enter Try.func4, Try.ntmps4
    go_wp2_with fail
    refine (Thin_any _ _ _ _ _ _ _ _ _ (by omega) (by omega)).mono ?_
    rintro e w1 ⟨rfl, hb⟩
    rw [HT.out]
    have HB := Lib.hid (up_later (up_alloc (up0 (w := w)) (.cells #[iv b.n, iv b.w, .slice A1 b.ks.length cap1, .slice A2 b.ds.length cap2] 25)) hb)
    have B1 := Lib.hid ((Box.new (w := w) (t := 25) (cs := #[iv b.n, iv b.w, .slice A1 b.ks.length cap1, .slice A2 b.ds.length cap2]) rfl).kept hb)
    clear hb
    have BB := B1.out
    have cB := fun i => BB.cell i
    have fB := fun i => BB.free i
    have lB := BB.lt
    have mB := Nat.lt_succ_of_lt lB
    go_wp2_with fail
    clear cB fB lB mB BB
    refine (Book_any _ _ b _ (HL.out.kept HB.out)).mono ?_
    rintro e w2 ⟨a1, a2, rfl, hq, hb⟩
    have HQ := Lib.hid hq
    clear hq
    have HB := Lib.hid (up_later HB.out hb)
    have B1 := Lib.hid (B1.out.kept hb)
    clear hb
    unfold bookV
    have BB := B1.out
    have cB := fun i => BB.cell i
    have fB := fun i => BB.free i
    have lB := BB.lt
    have mB := Nat.lt_succ_of_lt lB
    go_wp2_with fail
    clear cB fB lB mB BB
    refine (list_any _ l _ (HV.out.kept HB.out)).mono ?_
    rintro e w3 ⟨lv, rfl, hq, hb⟩
    have HP := Lib.hid hq
    clear hq
    have HB := Lib.hid (up_later HB.out hb)
    have B1 := Lib.hid (B1.out.kept hb)
    have HQ := Lib.hid (HQ.out.kept hb)
    clear hb
    have BB := B1.out
    have cB := fun i => BB.cell i
    have fB := fun i => BB.free i
    have lB := BB.lt
    have mB := Nat.lt_succ_of_lt lB
    go_wp2_with fail
    clear cB fB lB mB BB
    refine (Decode_any _ _ _ b day l _ HQ.out HP.out).mono ?_
    rintro e w4 ⟨pv, wv, rfl, hp, hwv, hb⟩
    rw [HCE.out] at hp hwv ⊢
    obtain ⟨_, Ap, cp, rfl, _, _⟩ := hp.form
    obtain ⟨_, Aw, cw, rfl, _, _⟩ := hwv.form
    have HPV := Lib.hid hp
    have HWV := Lib.hid hwv
    clear hp hwv HQ HP
    have HB := Lib.hid (up_later HB.out hb)
    have B1 := Lib.hid (B1.out.kept hb)
    clear hb
    have BB := B1.out
    have cB := fun i => BB.cell i
    have fB := fun i => BB.free i
    have lB := BB.lt
    have mB := Nat.lt_succ_of_lt lB
    go_wp2_with fail
    clear cB fB lB mB BB
    refine (Lfault_any _ _ b _ (HL.out.kept HB.out)).mono ?_
    rintro e w5 ⟨rfl, hb⟩
    rw [HE.out]
    have HPV := Lib.hid (HPV.out.kept hb)
    have HWV := Lib.hid (HWV.out.kept hb)
    have HB := Lib.hid (up_later HB.out hb)
    have B1 := Lib.hid (B1.out.kept hb)
    clear hb
    have BB := B1.out
    have cB := fun i => BB.cell i
    have fB := fun i => BB.free i
    have lB := BB.lt
    have mB := Nat.lt_succ_of_lt lB
    go_wp2_with fail
    clear cB fB lB mB BB
    refine (In_b day 0 ((b.ds.length : Int) - 1) false _ HIn.out).mono ?_
    rintro e w6 ⟨rfl, hb⟩
    have HPV := Lib.hid (HPV.out.kept hb)
    have HWV := Lib.hid (HWV.out.kept hb)
    have HB := Lib.hid (up_later HB.out hb)
    have B1 := Lib.hid (B1.out.kept hb)
    clear hb
    have BB := B1.out
    have cB := fun i => BB.cell i
    have fB := fun i => BB.free i
    have lB := BB.lt
    have mB := Nat.lt_succ_of_lt lB
    go_wp2_with fail
    clear cB fB lB mB BB
    refine (awake_any _).mono ?_
    rintro e w9 ⟨rfl, hb⟩
    go_wp2_with fail
    go_ret
    exact ⟨rfl, up_later HB.out hb⟩
  | true =>
    have HIn := Lib.hid (show inB 0 ((b.ds.length : Int) - 1) day = true by rw [inB_below]; exact c2)
    obtain ⟨d, rfl⟩ : ∃ d : Nat, day = d := ⟨day.toNat, by have := belowB_iff.1 c2; omega⟩
    have hd : d < b.ds.length := by have := belowB_iff.1 c2; omega
    obtain ⟨P, W, E, hR⟩ : ∃ P W E, rdecE b d l = (P, W, E) := ⟨_, _, _, rfl⟩
    have HR := Lib.hid hR
    have HCE := Lib.hid (show decodeE b d l = (P, W, E) by
      rw [← hR]
      unfold decodeE rdecE
      rw [if_neg (by simpa using c1), if_neg (by simp [c2]), Int.toNat_natCast])
    have HOK := Lib.hid hok
    have HD9 := Lib.hid hd
    clear c1 c2 hok hd hR
    generalize hday : (d : Int) = day at *
    go_enter Try.func4, Try.ntmps4
    go_wp2_with fail
    refine (Thin_any _ _ _ _ _ _ _ _ _ (by omega) (by omega)).mono ?_
    rintro e w1 ⟨rfl, hb⟩
    rw [HT.out]
    have HB := Lib.hid (up_later (up_alloc (up0 (w := w)) (.cells #[iv b.n, iv b.w, .slice A1 b.ks.length cap1, .slice A2 b.ds.length cap2] 25)) hb)
    have B1 := Lib.hid ((Box.new (w := w) (t := 25) (cs := #[iv b.n, iv b.w, .slice A1 b.ks.length cap1, .slice A2 b.ds.length cap2]) rfl).kept hb)
    clear hb
    have BB := B1.out
    have cB := fun i => BB.cell i
    have fB := fun i => BB.free i
    have lB := BB.lt
    have mB := Nat.lt_succ_of_lt lB
    go_wp2_with fail
    clear cB fB lB mB BB
    refine (Book_any _ _ b _ (HL.out.kept HB.out)).mono ?_
    rintro e w2 ⟨a1, a2, rfl, hq, hb⟩
    have HQ := Lib.hid hq
    clear hq
    have HB := Lib.hid (up_later HB.out hb)
    have B1 := Lib.hid (B1.out.kept hb)
    clear hb
    unfold bookV
    have BB := B1.out
    have cB := fun i => BB.cell i
    have fB := fun i => BB.free i
    have lB := BB.lt
    have mB := Nat.lt_succ_of_lt lB
    go_wp2_with fail
    clear cB fB lB mB BB
    refine (list_any _ l _ (HV.out.kept HB.out)).mono ?_
    rintro e w3 ⟨lv, rfl, hq, hb⟩
    have HP := Lib.hid hq
    clear hq
    have HB := Lib.hid (up_later HB.out hb)
    have B1 := Lib.hid (B1.out.kept hb)
    have HQ := Lib.hid (HQ.out.kept hb)
    clear hb
    have BB := B1.out
    have cB := fun i => BB.cell i
    have fB := fun i => BB.free i
    have lB := BB.lt
    have mB := Nat.lt_succ_of_lt lB
    go_wp2_with fail
    clear cB fB lB mB BB
    refine (Decode_any _ _ _ b day l _ HQ.out HP.out).mono ?_
    rintro e w4 ⟨pv, wv, rfl, hp, hwv, hb⟩
    rw [HCE.out] at hp hwv ⊢
    obtain ⟨_, Ap, cp, rfl, _, _⟩ := hp.form
    obtain ⟨_, Aw, cw, rfl, _, _⟩ := hwv.form
    have HPV := Lib.hid hp
    have HWV := Lib.hid hwv
    clear hp hwv HQ HP
    have HB := Lib.hid (up_later HB.out hb)
    have B1 := Lib.hid (B1.out.kept hb)
    clear hb
    have BB := B1.out
    have cB := fun i => BB.cell i
    have fB := fun i => BB.free i
    have lB := BB.lt
    have mB := Nat.lt_succ_of_lt lB
    go_wp2_with fail
    clear cB fB lB mB BB
    refine (Lfault_any _ _ b _ (HL.out.kept HB.out)).mono ?_
    rintro e w5 ⟨rfl, hb⟩
    rw [HE.out]
    have HPV := Lib.hid (HPV.out.kept hb)
    have HWV := Lib.hid (HWV.out.kept hb)
    have HB := Lib.hid (up_later HB.out hb)
    have B1 := Lib.hid (B1.out.kept hb)
    clear hb
    have BB := B1.out
    have cB := fun i => BB.cell i
    have fB := fun i => BB.free i
    have lB := BB.lt
    have mB := Nat.lt_succ_of_lt lB
    go_wp2_with fail
    clear cB fB lB mB BB
    refine (In_b day 0 ((b.ds.length : Int) - 1) true _ HIn.out).mono ?_
    rintro e w6 ⟨rfl, hb⟩
    have HPV := Lib.hid (HPV.out.kept hb)
    have HWV := Lib.hid (HWV.out.kept hb)
    have HB := Lib.hid (up_later HB.out hb)
    have B1 := Lib.hid (B1.out.kept hb)
    clear hb
    have BB := B1.out
    have cB := fun i => BB.cell i
    have fB := fun i => BB.free i
    have lB := BB.lt
    have mB := Nat.lt_succ_of_lt lB
    go_wp2_with fail
    clear cB fB lB mB BB
    subst hday
    refine (RDecode_any _ _ _ b d l _ HOK.out (HL.out.kept HB.out) HD9.out (HV.out.kept HB.out) (by omega)).mono ?_
    rintro e w8 ⟨p, q, rfl, hp, hq, hb⟩
    rw [HR.out] at hp hq ⊢
    have HP := Lib.hid hp
    have HQ := Lib.hid hq
    have HPV := Lib.hid (HPV.out.kept hb)
    have HWV := Lib.hid (HWV.out.kept hb)
    clear hp hq
    have HB := Lib.hid (up_later HB.out hb)
    have B1 := Lib.hid (B1.out.kept hb)
    clear hb
    have BB := B1.out
    have cB := fun i => BB.cell i
    have fB := fun i => BB.free i
    have lB := BB.lt
    have mB := Nat.lt_succ_of_lt lB
    go_wp2_with fail
    clear cB fB lB mB BB
    refine (same_any _ _ P P _ HPV.out HP.out).mono ?_
    rintro e w7 ⟨rfl, hb⟩
    rw [decide_eq_true (p := P = P) rfl]
    have HQ := Lib.hid (HQ.out.kept hb)
    have HWV := Lib.hid (HWV.out.kept hb)
    have HB := Lib.hid (up_later HB.out hb)
    clear hb
    go_wp2_with fail
    refine (same_any _ _ W W _ HWV.out HQ.out).mono ?_
    rintro e w7 ⟨rfl, hb⟩
    rw [decide_eq_true (p := W = W) rfl]
    have HB := Lib.hid (up_later HB.out hb)
    clear hb
    go_wp2_with fail
    refine (awake_any _).mono ?_
    rintro e w9 ⟨rfl, hb⟩
    go_wp2_with fail
    go_ret
    exact ⟨rfl, up_later HB.out hb⟩
end Go.Proofs.Ytoenhkhfpbglhaa

namespace Go.Proofs.Ytoenhkhfpbglhaa
open Go.ChangeShapes Go.WideShapes Go.ChangeAt Go.RowKit

set_option maxRecDepth 100000 in
theorem cipherDecodes_lifted (os : Os) (started : os.Started) (H : Type) (enc : TypeId × Value → H) :
    ReturnsInHanded {} Try.checked os 4 .any (Rows.cipherDecodesSpec.pre6 enc Try.prog Try.f4 Rows.cipherDecodesRow.domain false) (Rows.cipherDecodesSpec.post enc Try.prog Try.f4 false true false false) := by
  refine returnsInHanded_of_change (C := Try.checked) own_knob started (by kernel_rfl) Try.func4
    (ChangeSpec.witness6 (enc := enc) (C := Try.checked) false ⟨#[], #[.agg #[.int .i64 0, .int .i64 0, .slice Option.none 0 0, .slice Option.none 0 0], .int .i64 0, .slice Option.none 0 0], []⟩ 8 (by kernel_rfl) (by kernel_rfl) (by kernel_rfl) (by kernel_rfl)) ?_
  intro W base args ds gs before hval0 hW hcnd _
  have hval : ∀ (j : Nat) t v, Try.f4.params[j]? = some t → args[j]? = some v → Value.okWide Try.prog W .any base t v := hval0
  have hW' := hW
  obtain ⟨p, q, hA0, hV, rfl, hfz, hnd⟩ := hW
  have hA : DataW.TrodAll enc Try.prog W 0 (fun _ => true) true Try.f4.params.toList args.toList ds p := hA0
  rw [Try.params4] at hA hval
  have hlt : ∀ x ∈ p, x.block < W.heap.size := fun x hx => hW'.lt x (List.mem_append_left _ hx)
  have hAk := hA
  obtain ⟨v0, vs0, d0, ds0, p0, q0, hargs, rfl, rfl, h0, r0⟩ := trodAll_cons hA
  obtain ⟨v1, vs1, d1, ds1, p1, q1, rfl, rfl, rfl, h1, r1⟩ := trodAll_cons r0
  obtain ⟨v2, vs2, d2, ds2, p2, q2, rfl, rfl, rfl, h2, r2⟩ := trodAll_cons r1
  obtain ⟨rfl, rfl, rfl⟩ := trodAll_nil r2
  obtain rfl : args = #[v0, v1, v2] := by cases args; simp_all
  obtain ⟨rfl, rfl⟩ := trodVars_none hV
  obtain ⟨a1, rfl, rfl, rfl, w1⟩ := open_int Try.underlying3 (hval 1 3 v1 rfl rfl) h1
  obtain ⟨cs, rfl, _⟩ := okWide_struct und25 (hval 0 25 v0 rfl rfl)
  obtain ⟨fuel, h0⟩ := h0
  obtain ⟨u1, u2, b, hcs, hL⟩ := open_book h0
  obtain rfl : cs = #[iv b.n, iv b.w, u1, u2] := by
    have h : cs.toList = [iv b.n, iv b.w, u1, u2] := hcs
    cases cs
    simp at h
    rw [h]
  obtain ⟨ba2, len2, cap2, rfl⟩ := okWide_slice Try.underlying23 (hval 2 23 v2 rfl rfl)
  obtain ⟨fuel2, h2⟩ := h2
  obtain ⟨x2, l2, e2, hl2⟩ := open_list h2
  obtain rfl : x2 = .slice ba2 len2 cap2 := by
    have h : [Value.slice ba2 len2 cap2] = [x2] := e2
    injection h with h _
    exact h.symm
  clear hA0 hval0 hval hA
  simp only [List.append_nil] at hW'
  simp only [List.append_nil] at hAk hlt
  refine (decodes_law u1 u2 b a1 _ l2 W hL hl2).mono fun e W' ⟨he, hg⟩ => ?_
  subst he
  refine ⟨_, rfl, post_below (pv := []) hW' hg (fun _ _ _ => (trodAll_cons_mk (shut_bool Try.underlying4 _) trodAll_mk0)) (fun sp hsp => ?_) (fun _ _ => rfl) (List.append_nil _).symm
    (ok_one (by kernel_rfl) rfl (okWide_bool_mk Try.underlying4 _))⟩
  rw [Try.params4]
  refine args_stay laid_out hg (fun t ht => ?_) hAk hlt sp (fun x hx => hsp x (by first | exact hx | simpa using hx))
  simp only [List.mem_cons, List.not_mem_nil, or_false] at ht
  rcases ht with rfl | rfl | rfl
  · exact ⟨by kernel_rfl, by have h : decide (25 < Try.prog.types.size) = true := (by kernel_rfl); exact of_decide_eq_true h⟩
  · exact ⟨by kernel_rfl, by have h : decide (3 < Try.prog.types.size) = true := (by kernel_rfl); exact of_decide_eq_true h⟩
  · exact ⟨by kernel_rfl, by have h : decide (23 < Try.prog.types.size) = true := (by kernel_rfl); exact of_decide_eq_true h⟩

theorem cipherDecodes_over : Rows.cipherDecodesRow.holds Try.pinned (OpenSpec.ofChange Rows.cipherDecodesSpec) :=
  OpenClaim.holds_of_wide 4 Try.f4 rfl rfl rfl rfl rfl rfl rfl ⟨rfl, rfl, rfl, rfl, rfl⟩ rfl rfl rfl rfl rfl (by kernel_rfl) Try.func4 (by kernel_rfl)
    (of_decide_eq_true (by kernel_rfl)) (by unfold Func.isWrapper; first | (rw [if_pos (by decide +kernel)]; kernel_rfl) | (rw [if_neg (by decide +kernel)]; exact ⟨rfl, rfl⟩))
    (fun os started H enc _ => cipherDecodes_lifted os started H enc)

theorem CipherDecodes_holds : Rows.CipherDecodesSaid := cipherDecodes_over

end Go.Proofs.Ytoenhkhfpbglhaa
