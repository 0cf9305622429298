/-
  WALKS of the reference's Cost and Do. Condition: at most 1000 steps.
-/
import Derived.Test.YtonekgefegfapaaGreatGo
namespace Go.Proofs.YtonekgefegfapaaGreat
open Go.RowKit

set_option maxRecDepth 100000 in
set_option maxHeartbeats 1500000 in
theorem Step_out (x : Int) (A B : ByteArray) (w : World) (h : ¬ (0 ≤ x ∧ x < 6)) : Calls Tryz.prog 62 #[iv x, .string A, .string B] w fun e w' => e = .returned (stepV x A B) ∧ Below w.heap.size w w' := by
  have HR := Lib.hid (show stepR x A.data.toList B.data.toList = none by unfold stepR; rw [if_neg h])
  have h0 : (x == 0) = false := beq_eq_false_iff_ne.2 (by omega)
  have h1 : (x == 1) = false := beq_eq_false_iff_ne.2 (by omega)
  have h2 : (x == 2) = false := beq_eq_false_iff_ne.2 (by omega)
  have h3 : (x == 3) = false := beq_eq_false_iff_ne.2 (by omega)
  have h4 : (x == 4) = false := beq_eq_false_iff_ne.2 (by omega)
  have h5 : (x == 5) = false := beq_eq_false_iff_ne.2 (by omega)
  clear h
  go_enter Tryz.func62, Tryz.ntmps62
  go_wp2_with fail
  go_ret3
  exact ⟨congrArg Ending.returned (stepV_none HR.out).symm, up0⟩
theorem Step_any (x : Int) (A B : ByteArray) (w : World) : Calls Tryz.prog 62 #[iv x, .string A, .string B] w fun e w' => e = .returned (stepV x A B) ∧ Below w.heap.size w w' := by
  by_cases h : 0 ≤ x ∧ x < 6
  · have hx : x = 0 ∨ x = 1 ∨ x = 2 ∨ x = 3 ∨ x = 4 ∨ x = 5 := by omega
    rcases hx with rfl | rfl | rfl | rfl | rfl | rfl
    · exact Step0_any A B w
    · exact Step1_any A B w
    · exact Step2_any A B w
    · exact Step3_any A B w
    · exact Step4_any A B w
    · exact Step5_any A B w
  · exact Step_out x A B w h
set_option maxRecDepth 100000 in
theorem Cost_any (x : Int) (w : World) (h0 : 0 ≤ x) : Calls Tryz.prog 63 #[iv x] w fun e w' => e = .returned (iv (errsN x.toNat)) ∧ Below w.heap.size w w' := by
  by_cases h : x = 0
  · subst h
    go_enter Tryz.func63, Tryz.ntmps63
    go_wp2_with fail
    go_ret
    exact ⟨rfl, up0⟩
  · have he : (x == 0) = false := beq_eq_false_iff_ne.2 h
    have H1 := Lib.hid (show errsN x.toNat = 1 by
      obtain ⟨n, hn⟩ : ∃ n, x.toNat = n + 1 := ⟨x.toNat - 1, by omega⟩
      rw [hn]
      rfl)
    clear h h0
    go_enter Tryz.func63, Tryz.ntmps63
    go_wp2_with fail
    go_ret
    exact ⟨by rw [H1.out]; rfl, up0⟩
/-- One more step of the reference. -/
def stepG (S R : By) (o : Option ((Nat × Nat) × Nat)) (x : Int) : Option ((Nat × Nat) × Nat) := match o with
  | none => none
  | some (p, e) => match stepR x (S.drop p.1) (R.drop p.2) with
    | none => none
    | some q => some ((p.1 + q.1, p.2 + q.2), e + errsN x.toNat)
def folR (S R : By) (l : List Int) : Option ((Nat × Nat) × Nat) := l.foldl (stepG S R) (some ((0, 0), 0))
theorem folR_take {S R : By} {l : List Int} {k : Nat} {x : Int} (hx : l[k]? = some x) : folR S R (l.take (k + 1)) = stepG S R (folR S R (l.take k)) x := by
  unfold folR
  rw [List.take_add_one, hx]
  simp
theorem folR_none {S R : By} {l : List Int} {k : Nat} (h : folR S R (l.take k) = none) : folR S R l = none := by
  have hn : ∀ m : List Int, m.foldl (stepG S R) none = none := fun m => by
    induction m with
    | nil => rfl
    | cons x m ih => exact ih
  unfold folR at h ⊢
  rw [← List.take_append_drop k l, List.foldl_append, h]
  exact hn _
def doV (S R : By) (l : List Int) : Value := match folR S R l with
  | none => .tuple #[iv 0, .bool false]
  | some (p, e) => .tuple #[iv e, .bool ((S.drop p.1).isEmpty && (R.drop p.2).isEmpty)]
theorem doV_none {S R : By} {l : List Int} (h : folR S R l = none) : doV S R l = .tuple #[iv 0, .bool false] := by unfold doV; rw [h]
theorem doV_some {S R : By} {l : List Int} {p : Nat × Nat} {e : Nat} (h : folR S R l = some (p, e)) : doV S R l = .tuple #[iv e, .bool ((S.drop p.1).isEmpty && (R.drop p.2).isEmpty)] := by unfold doV; rw [h]
theorem stepR_x {x : Int} {A B : By} {q : Nat × Nat} (h : stepR x A B = some q) : 0 ≤ x ∧ x < 6 := by
  unfold stepR at h
  split at h
  · assumption
  · cases h
theorem drop_cut {A : ByteArray} {S : By} {a i : Nat} (h : A.data.toList = S.drop a) : (A.extract i A.size).data.toList = S.drop (a + i) := by
  rw [← ByteArray.toList_eq, Lib.extract_toList, h, List.drop_drop, List.take_of_length_le (by rw [List.length_drop, Lib.size_eq, h, List.length_drop]; omega)]
set_option maxRecDepth 100000 in
set_option maxHeartbeats 3000000 in
theorem Do_any (s r : ByteArray) (v : Value) (l : List Int) (w : World) (hl : RowsAny w v 1 ic l) (h9 : l.length ≤ 1000) :
    Calls Tryz.prog 34 #[.string s, .string r, v] w fun e w' => e = .returned (doV s.data.toList r.data.toList l) ∧ Below w.heap.size w w' := by
  obtain ⟨A, cap, hv, hcap, hmax⟩ := hl.form
  subst hv
  clear hcap hmax
  go_enter Tryz.func34, Tryz.ntmps34
  go_wp2_with fail
  go_loopw [0, 1, 8, 9] (fun a b m i wr => ∃ X Y : ByteArray, ∃ k p c e : Nat, a = .string X ∧ b = .string Y ∧ k ≤ l.length ∧ i = iv k ∧ m = iv e ∧ Hid (folR s.data.toList r.data.toList (l.take k) = some ((p, c), e)) ∧ X.data.toList = s.data.toList.drop p ∧ Y.data.toList = r.data.toList.drop c ∧ e ≤ k ∧ Below w.heap.size w wr) (fun _ _ _ i _ => l.length - (intOf i).toNat)
  case atStart => exact ⟨s, r, 0, 0, 0, 0, rfl, rfl, by omega, rfl, rfl, rfl, rfl, rfl, by omega, Below.refl _ _⟩
  case round =>
    obtain ⟨X, Y, k, p, c, e, rfl, rfl, hk, rfl, rfl, HF, hX, hY, he, hB⟩ := hrel
    by_cases hlt : k < l.length
    · obtain ⟨x, hx⟩ : ∃ x, l[k]? = some x := ⟨_, List.getElem?_eq_getElem hlt⟩
      obtain ⟨b, off, rfl, hb, hcc⟩ := (hl.kept hB).at rfl hx
      have Hx := Lib.hid (folR_take (S := s.data.toList) (R := r.data.toList) hx)
      have q0 : wr.cell? ⟨b, off + k, none⟩ = some (.int .i64 x) := by simpa using hcc 0 _ rfl
      clear hx hcc
      go_wp2_with fail
      refine (Step_any x X Y _).mono ?_
      rintro e1 w1 ⟨rfl, hb1⟩
      have hB1 := up_later hB hb1
      cases hq : stepR x X.data.toList Y.data.toList with
      | none =>
        have HV := Lib.hid (doV_none (folR_none (k := k + 1) (show folR s.data.toList r.data.toList (l.take (k + 1)) = none by
          rw [Hx.out, HF.out]
          simp only [stepG]
          rw [← hX, ← hY, hq])))
        rw [stepV_none hq]
        clear hq hX hY HF Hx q0
        go_wp2_with fail
        go_ret2
        exact ⟨by rw [HV.out]; rfl, hB1⟩
      | some q =>
        obtain ⟨i, j⟩ := q
        have q1 := (hb1.cell (p := ⟨b, off + k, none⟩) hb).trans q0
        have hx6 := stepR_x hq
        have hN : folR s.data.toList r.data.toList (l.take (k + 1)) = some ((p + i, c + j), e + errsN x.toNat) := by
          rw [Hx.out, HF.out]
          simp only [stepG]
          rw [← hX, ← hY, hq]
        have hX2 := drop_cut (i := i) hX
        have hY2 := drop_cut (i := j) hY
        have hen : errsN x.toNat ≤ 1 := by unfold errsN; split <;> omega
        rw [stepV_some hq]
        obtain ⟨X2, hXe⟩ : ∃ X2, X.extract i X.size = X2 := ⟨_, rfl⟩
        obtain ⟨Y2, hYe⟩ : ∃ Y2, Y.extract j Y.size = Y2 := ⟨_, rfl⟩
        rw [hXe] at hX2 ⊢
        rw [hYe] at hY2 ⊢
        obtain ⟨en, hee⟩ : ∃ en, errsN x.toNat = en := ⟨_, rfl⟩
        rw [hee] at hN hen
        have HE := Lib.hid hee
        have HN := Lib.hid hN
        clear hq hX hY HF Hx q0 hXe hYe hee hN
        go_wp2_with fail
        refine (Cost_any x _ hx6.1).mono ?_
        rintro e1 w2 ⟨rfl, hb2⟩
        have hB2 := up_later hB1 hb2
        rw [HE.out]
        clear hb2 hb1
        go_wp2_with fail
        go_roundw
        case rel => exact ⟨X2, Y2, k + 1, p + i, c + j, e + en, rfl, rfl, by omega, by go_num, by go_num, HN, hX2, hY2, by omega, hB2⟩
        case measure => simp [intOf]; omega
    · have hk : k = l.length := by omega
      subst hk
      rw [List.take_length] at HF
      have HV := Lib.hid (doV_some HF.out)
      rw [← hX, ← hY] at HV
      have e1 : X.toList = X.data.toList := ByteArray.toList_eq X
      have e2 : Y.toList = Y.data.toList := ByteArray.toList_eq Y
      rw [← e1, ← e2] at HV
      clear hX hY HF e1 e2
      cases b1 : X.toList.isEmpty with
      | true =>
        have f1 : X.toList = [] := List.isEmpty_iff.1 b1
        cases b2 : Y.toList.isEmpty with
        | true =>
          have f2 : Y.toList = [] := List.isEmpty_iff.1 b2
          rw [b1, b2] at HV
          clear b1 b2
          go_wp2_with fail
          go_ret2
          exact ⟨by rw [HV.out]; rfl, hB⟩
        | false =>
          have f2 : ¬ Y.toList = [] := fun h => by rw [h] at b2; cases b2
          rw [b1, b2] at HV
          clear b1
          go_wp2_with fail
          go_ret2
          exact ⟨by rw [HV.out]; rfl, hB⟩
      | false =>
        have f1 : ¬ X.toList = [] := fun h => by rw [h] at b1; cases b1
        rw [b1] at HV
        go_wp2_with fail
        go_ret2
        exact ⟨by rw [HV.out]; rfl, hB⟩
end Go.Proofs.YtonekgefegfapaaGreat
