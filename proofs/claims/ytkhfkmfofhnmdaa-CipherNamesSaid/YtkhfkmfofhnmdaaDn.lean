/-
  CipherBack holds: Decode of a dispatch that Code made returns its plain text; Code of that makes the same dispatch. No condition.
-/
import Derived.Test.YtkhfkmfofhnmdaaDl
import Derived.Test.YtkhfkmfofhnmdaaDm
namespace Go.Proofs.Ytkhfkmfofhnmdaa
open Go.RowKit Go.Shelf
attribute [local go_sem] Oper.semAt_some

set_option maxRecDepth 100000 in
set_option maxHeartbeats 1000000 in
theorem ready_fat (n ws : Int) (A1 A2 : Option Addr) (n1 n2 c1 c2 : Nat) (v : Value) (w : World) (h1 : n1 ≤ 9223372036854775807) (h2 : n2 ≤ 9223372036854775807) (hT : (decide (n1 ≤ 8) && decide (n2 ≤ 11)) = false) :
    Calls Try.prog 47 #[.agg #[iv n, iv ws, .slice A1 n1 c1, .slice A2 n2 c2], v] w fun e w' => e = .returned (.bool false) ∧ Below w.heap.size w w' := by
  have HT := Lib.hid hT
  clear hT
  go_enter Try.func47, Try.ntmps47
  go_wp2_with fail
  refine (Thin_any _ _ _ _ _ _ _ _ _ h1 h2).mono ?_
  rintro e w1 ⟨rfl, hb⟩
  rw [HT.out]
  go_wp2_with fail
  go_ret
  exact ⟨rfl, up_later (up_alloc up0 _) hb⟩
set_option maxRecDepth 100000 in
set_option maxHeartbeats 1000000 in
theorem Back_fat (n ws : Int) (A1 A2 : Option Addr) (n1 n2 c1 c2 : Nat) (v : Value) (x : Int) (w : World) (h1 : n1 ≤ 9223372036854775807) (h2 : n2 ≤ 9223372036854775807) (hT : (decide (n1 ≤ 8) && decide (n2 ≤ 11)) = false) :
    Calls Try.prog 9 #[.agg #[iv n, iv ws, .slice A1 n1 c1, .slice A2 n2 c2], v, .int .u8 x] w fun e w' => e = .returned (.bool true) ∧ Below w.heap.size w w' := by
  have HT := Lib.hid hT
  clear hT
  go_enter Try.func9, Try.ntmps9
  go_wp2_with fail
  refine (ready_fat _ _ _ _ _ _ _ _ _ _ h1 h2 HT.out).mono ?_
  rintro e w1 ⟨rfl, hb⟩
  have HB := Lib.hid (up_later (up_alloc (up0 (w := w)) (.cells #[iv n, iv ws, .slice A1 n1 c1, .slice A2 n2 c2] 25)) hb)
  clear hb
  go_wp2_with fail
  refine (awake_any _).mono ?_
  rintro e w2 ⟨rfl, hb⟩
  go_wp2_with fail
  go_ret
  exact ⟨rfl, up_later HB.out hb⟩
theorem back_law (v1 v2 : Value) (b : Bk) (v : Value) (l : List Int) (x : Int) (w : World) (hL : BookAny w v1 v2 b) (hl : RowsAny w v 1 ic l) (hx : 0 ≤ x ∧ x ≤ 255) :
    Calls Try.prog 9 #[.agg #[iv b.n, iv b.w, v1, v2], v, .int .u8 x] w fun e w' => e = .returned (.bool true) ∧ Below w.heap.size w w' := by
  obtain ⟨A, cap, rfl, hc, hcm⟩ := hl.form
  cases hT : (decide (b.ks.length ≤ 8) && decide (b.ds.length ≤ 11)) with
  | true =>
    have h : b.ks.length ≤ 8 ∧ b.ds.length ≤ 11 := by simpa using hT
    exact Back_thin v1 v2 b A cap l x w (hL.at h.1 h.2) h (by omega) (fun h => hl.rows (by omega)) hx.1 hx.2
  | false =>
    obtain ⟨A1, c1, rfl, g1, g2⟩ := hL.ks.form
    obtain ⟨A2, c2, rfl, g3, g4⟩ := hL.ds.form
    exact Back_fat b.n b.w A1 A2 _ _ c1 c2 _ x w (by omega) (by omega) hT
end Go.Proofs.Ytkhfkmfofhnmdaa

namespace Go.Proofs.Ytkhfkmfofhnmdaa
open Go.ChangeShapes Go.WideShapes Go.ChangeAt Go.RowKit

set_option maxRecDepth 100000 in
theorem cipherBack_lifted (os : Os) (started : os.Started) (H : Type) (enc : TypeId × Value → H) :
    ReturnsInHanded {} Try.checked os 9 .any (Rows.cipherBackSpec.pre6 enc Try.prog Try.f9 Rows.cipherBackRow.domain false) (Rows.cipherBackSpec.post enc Try.prog Try.f9 false true false false) := by
  refine returnsInHanded_of_change (C := Try.checked) own_knob started (by kernel_rfl) Try.func9
    (ChangeSpec.witness6 (enc := enc) (C := Try.checked) false ⟨#[], #[.agg #[.int .i64 0, .int .i64 0, .slice Option.none 0 0, .slice Option.none 0 0], .slice Option.none 0 0, .int .u8 0], []⟩ 8 (by kernel_rfl) (by kernel_rfl) (by kernel_rfl) (by kernel_rfl)) ?_
  intro W base args ds gs before hval0 hW hcnd _
  have hval : ∀ (j : Nat) t v, Try.f9.params[j]? = some t → args[j]? = some v → Value.okWide Try.prog W .any base t v := hval0
  have hW' := hW
  obtain ⟨p, q, hA0, hV, rfl, hfz, hnd⟩ := hW
  have hA : DataW.TrodAll enc Try.prog W 0 (fun _ => true) true Try.f9.params.toList args.toList ds p := hA0
  rw [Try.params9] at hA hval
  have hlt : ∀ x ∈ p, x.block < W.heap.size := fun x hx => hW'.lt x (List.mem_append_left _ hx)
  have hAk := hA
  obtain ⟨v0, vs0, d0, ds0, p0, q0, hargs, rfl, rfl, h0, r0⟩ := trodAll_cons hA
  obtain ⟨v1, vs1, d1, ds1, p1, q1, rfl, rfl, rfl, h1, r1⟩ := trodAll_cons r0
  obtain ⟨v2, vs2, d2, ds2, p2, q2, rfl, rfl, rfl, h2, r2⟩ := trodAll_cons r1
  obtain ⟨rfl, rfl, rfl⟩ := trodAll_nil r2
  obtain rfl : args = #[v0, v1, v2] := by cases args; simp_all
  obtain ⟨rfl, rfl⟩ := trodVars_none hV
  obtain ⟨a2, rfl, rfl, rfl, w2⟩ := open_int Try.underlying5 (hval 2 5 v2 rfl rfl) h2
  obtain ⟨cs, rfl, _⟩ := okWide_struct und25 (hval 0 25 v0 rfl rfl)
  obtain ⟨fuel, h0⟩ := h0
  obtain ⟨u1, u2, b, hcs, hL⟩ := open_book h0
  obtain rfl : cs = #[iv b.n, iv b.w, u1, u2] := by
    have h : cs.toList = [iv b.n, iv b.w, u1, u2] := hcs
    cases cs
    simp at h
    rw [h]
  obtain ⟨b0, len, cap, rfl⟩ := okWide_slice Try.underlying23 (hval 1 23 v1 rfl rfl)
  obtain ⟨fuel1, h1⟩ := h1
  obtain ⟨v, l, e1, hl⟩ := open_list h1
  obtain rfl : v = .slice b0 len cap := by
    have h : [Value.slice b0 len cap] = [v] := e1
    injection h with h _
    exact h.symm
  clear hA0 hval0 hval hA
  simp only [List.append_nil] at hW'
  simp only [List.append_nil] at hAk hlt
  refine (back_law u1 u2 b _ l a2 W hL hl (bounds_u8 w2)).mono fun e W' ⟨he, hg⟩ => ?_
  subst he
  refine ⟨_, rfl, post_below (pv := []) hW' hg (fun _ _ _ => (trodAll_cons_mk (shut_bool Try.underlying4 _) trodAll_mk0)) (fun sp hsp => ?_) (fun _ _ => rfl) (List.append_nil _).symm
    (ok_one (by kernel_rfl) rfl (okWide_bool_mk Try.underlying4 _))⟩
  rw [Try.params9]
  refine args_stay laid_out hg (fun t ht => ?_) hAk hlt sp (fun x hx => hsp x (by first | exact hx | simpa using hx))
  simp only [List.mem_cons, List.not_mem_nil, or_false] at ht
  rcases ht with rfl | rfl | rfl
  · exact rec25
  · exact rec23
  · exact rec5

theorem cipherBack_over : Rows.cipherBackRow.holds Try.pinned (OpenSpec.ofChange Rows.cipherBackSpec) :=
  OpenClaim.holds_of_wide 9 Try.f9 rfl rfl rfl rfl rfl rfl rfl ⟨rfl, rfl, rfl, rfl, rfl⟩ rfl rfl rfl rfl rfl (by kernel_rfl) Try.func9 (by kernel_rfl)
    (of_decide_eq_true (by kernel_rfl)) (by unfold Func.isWrapper; first | (rw [if_pos (by decide +kernel)]; kernel_rfl) | (rw [if_neg (by decide +kernel)]; exact ⟨rfl, rfl⟩))
    (fun os started H enc _ => cipherBack_lifted os started H enc)

theorem CipherBack_holds : Rows.CipherBackSaid := cipherBack_over

end Go.Proofs.Ytkhfkmfofhnmdaa
