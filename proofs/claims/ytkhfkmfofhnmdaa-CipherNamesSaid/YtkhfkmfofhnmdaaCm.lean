/-
  WALK of Code. Conditions: lists have at most 1000 elements.
-/
import Derived.Test.YtkhfkmfofhnmdaaCl
namespace Go.Proofs.Ytkhfkmfofhnmdaa
open Go.RowKit

theorem deskE_nil (b : Bk) : deskE b [] = bookE b := by
  unfold deskE
  by_cases h : bookE b = 0
  · rw [if_neg (by simpa using h), if_neg (by simp), if_pos (by simp), h]
  · rw [if_pos h]
/-- A dispatch, or the error of a call for it. -/
def codeE (b : Bk) (day : Int) (l : List Int) : List Int × Int :=
  if bookE b ≠ 0 then ([], bookE b) else if belowB day b.ds.length = false then ([], 2) else if 10 < l.length then ([], 3) else if l.all (fun x => belowB x b.n) = false then ([], 2) else (dispatchI b day.toNat l, 0)
theorem own_nil' {w : World} {base : Nat} : w.ownsRow base 3 1 (.slice none 0 0) 0 ([].map iv) := World.ownsRow_nil _ _ _ _

set_option maxRecDepth 100000 in
set_option maxHeartbeats 1500000 in
theorem Code_any (v1 v2 v4 : Value) (b : Bk) (day : Int) (l : List Int) (w : World) (hL : BookAt w v1 v2 b) (hl : IntsAt w v4 l) :
    Calls Try.prog 21 #[bookV b v1 v2, iv day, v4] w fun e w' => ∃ v, e = .returned (.tuple #[v, iv (codeE b day l).2]) ∧ w'.ownsRow w.heap.size 3 1 v (codeE b day l).1.length ((codeE b day l).1.map iv) ∧ Below w.heap.size w w' := by
  obtain ⟨_, A1, cap1, rfl, _, _⟩ := hL.ks.form
  obtain ⟨_, A2, cap2, rfl, _, _⟩ := hL.ds.form
  obtain ⟨hlen, A4, cap4, rfl, hcap, _⟩ := hl.form
  have HL := Lib.hid hL
  have HV := Lib.hid hl
  clear hL hl
  by_cases c1 : bookE b = 0
  case neg =>
    have C1 := Lib.hid c1
    have c1' : (bookE b == 0) = false := by rw [beq_eq_false_iff_ne]; exact c1
    have Hfin := Lib.hid (show codeE b day l = ([], bookE b) by unfold codeE; rw [if_pos c1])
    rw [Hfin.out]
    clear c1
    unfold bookV
    go_enter Try.func21, Try.ntmps21
    go_wp2_with fail
    refine (open_any _ _ _ b [] _ (HL.out.kept (up_alloc up0 _)) (RowsAt.nil _)).mono ?_
    rintro e w1 ⟨rfl, hb⟩
    rw [deskE_nil, if_neg C1.out]
    unfold desk0
    have hB := up_later (up_alloc (up0 (w := w)) (.cells #[iv b.n, iv b.w, .slice A1 b.ks.length cap1, .slice A2 b.ds.length cap2] 32)) hb
    clear hb
    go_wp2_with fail
    go_ret2
    exact ⟨_, rfl, own_nil', up_alloc hB _⟩
  have C1 := Lib.hid c1
  cases c2 : belowB day b.ds.length
  case false =>
    have Hfin := Lib.hid (show codeE b day l = ([], 2) by unfold codeE; rw [if_neg (by simpa using c1), if_pos c2])
    have C2 := Lib.hid c2
    rw [Hfin.out]
    clear c1 c2
    unfold bookV
    go_enter Try.func21, Try.ntmps21
    go_wp2_with fail
    refine (open_any _ _ _ b [] _ (HL.out.kept (up_alloc up0 _)) (RowsAt.nil _)).mono ?_
    rintro e w1 ⟨rfl, hb⟩
    rw [deskE_nil, if_pos C1.out, C1.out]
    unfold deskV
    have hB := up_later (up_alloc (up0 (w := w)) (.cells #[iv b.n, iv b.w, .slice A1 b.ks.length cap1, .slice A2 b.ds.length cap2] 32)) hb
    clear hb
    go_wp2_with fail
    have B8 := Box.new (w := w1) (t := 98) (cs := #[iv b.n, iv b.w, .slice A1 b.ks.length cap1, .slice A2 b.ds.length cap2, .slice none 0 0]) rfl
    have HB := Lib.hid (up_alloc hB (.cells #[iv b.n, iv b.w, .slice A1 b.ks.length cap1, .slice A2 b.ds.length cap2, .slice none 0 0] 98))
    have B8 := Lib.hid B8
    refine (hasDay_any _ _ _ _ _ _ day _).mono ?_
    rintro e w2 ⟨rfl, hb⟩
    have HB := Lib.hid (up_later HB.out hb)
    have B8 := Lib.hid (B8.out.kept hb)
    clear hb
    rw [C2.out]
    have BB := B8.out
    have cB := fun i => BB.cell i
    have fB := fun i => BB.free i
    have lB := BB.lt
    have mB := Nat.lt_succ_of_lt lB
    go_wp2_with fail
    clear cB fB lB mB BB
    go_ret2
    exact ⟨_, rfl, own_nil', HB.out⟩
  have C2 := Lib.hid c2
  by_cases c3 : (10 : Int) < (l.length : Int)
  case pos =>
    have Hfin := Lib.hid (show codeE b day l = ([], 3) by unfold codeE; rw [if_neg (by simpa using c1), if_neg (by simp [c2]), if_pos (by omega)])
    rw [Hfin.out]
    clear c1 c2
    unfold bookV
    go_enter Try.func21, Try.ntmps21
    go_wp2_with fail
    refine (open_any _ _ _ b [] _ (HL.out.kept (up_alloc up0 _)) (RowsAt.nil _)).mono ?_
    rintro e w1 ⟨rfl, hb⟩
    rw [deskE_nil, if_pos C1.out, C1.out]
    unfold deskV
    have hB := up_later (up_alloc (up0 (w := w)) (.cells #[iv b.n, iv b.w, .slice A1 b.ks.length cap1, .slice A2 b.ds.length cap2] 32)) hb
    clear hb
    go_wp2_with fail
    have B8 := Box.new (w := w1) (t := 98) (cs := #[iv b.n, iv b.w, .slice A1 b.ks.length cap1, .slice A2 b.ds.length cap2, .slice none 0 0]) rfl
    have HB := Lib.hid (up_alloc hB (.cells #[iv b.n, iv b.w, .slice A1 b.ks.length cap1, .slice A2 b.ds.length cap2, .slice none 0 0] 98))
    have B8 := Lib.hid B8
    refine (hasDay_any _ _ _ _ _ _ day _).mono ?_
    rintro e w2 ⟨rfl, hb⟩
    have HB := Lib.hid (up_later HB.out hb)
    have B8 := Lib.hid (B8.out.kept hb)
    clear hb
    rw [C2.out]
    have BB := B8.out
    have cB := fun i => BB.cell i
    have fB := fun i => BB.free i
    have lB := BB.lt
    have mB := Nat.lt_succ_of_lt lB
    go_wp2_with fail
    clear cB fB lB mB BB
    go_ret2
    exact ⟨_, rfl, own_nil', HB.out⟩
  cases c4 : l.all (fun x => belowB x b.n)
  case false =>
    have Hfin := Lib.hid (show codeE b day l = ([], 2) by unfold codeE; rw [if_neg (by simpa using c1), if_neg (by simp [c2]), if_neg (by omega), if_pos c4])
    have C4 := Lib.hid c4
    rw [Hfin.out]
    clear c1 c2 c4
    unfold bookV
    go_enter Try.func21, Try.ntmps21
    go_wp2_with fail
    refine (open_any _ _ _ b [] _ (HL.out.kept (up_alloc up0 _)) (RowsAt.nil _)).mono ?_
    rintro e w1 ⟨rfl, hb⟩
    rw [deskE_nil, if_pos C1.out, C1.out]
    unfold deskV
    have hB := up_later (up_alloc (up0 (w := w)) (.cells #[iv b.n, iv b.w, .slice A1 b.ks.length cap1, .slice A2 b.ds.length cap2] 32)) hb
    clear hb
    go_wp2_with fail
    have B8 := Box.new (w := w1) (t := 98) (cs := #[iv b.n, iv b.w, .slice A1 b.ks.length cap1, .slice A2 b.ds.length cap2, .slice none 0 0]) rfl
    have HB := Lib.hid (up_alloc hB (.cells #[iv b.n, iv b.w, .slice A1 b.ks.length cap1, .slice A2 b.ds.length cap2, .slice none 0 0] 98))
    have B8 := Lib.hid B8
    refine (hasDay_any _ _ _ _ _ _ day _).mono ?_
    rintro e w2 ⟨rfl, hb⟩
    have HB := Lib.hid (up_later HB.out hb)
    have B8 := Lib.hid (B8.out.kept hb)
    clear hb
    rw [C2.out]
    have BB := B8.out
    have cB := fun i => BB.cell i
    have fB := fun i => BB.free i
    have lB := BB.lt
    have mB := Nat.lt_succ_of_lt lB
    go_wp2_with fail
    clear cB fB lB mB BB
    refine (every_plain _ l _ (fun x => belowB x b.n) _ (HV.out.kept HB.out) (fun x _ w1 _ => isPlain_any _ _ _ _ x w1)).mono ?_
    rintro e w3 ⟨rfl, hb⟩
    have HB := Lib.hid (up_later HB.out hb)
    have B8 := Lib.hid (B8.out.kept hb)
    clear hb
    rw [C4.out]
    have BB := B8.out
    have cB := fun i => BB.cell i
    have fB := fun i => BB.free i
    have lB := BB.lt
    have mB := Nat.lt_succ_of_lt lB
    go_wp2_with fail
    clear cB fB lB mB BB
    go_ret2
    exact ⟨_, rfl, own_nil', HB.out⟩
  have Hfin := Lib.hid (show codeE b day l = (dispatchI b day.toNat l, 0) by unfold codeE; rw [if_neg (by simpa using c1), if_neg (by simp [c2]), if_neg (by omega), if_neg (by simp [c4])])
  have hok := BookOK.of c1
  obtain ⟨d, rfl⟩ : ∃ d : Nat, day = d := ⟨day.toNat, by have := belowB_iff.1 c2; omega⟩
  have hd : d < b.ds.length := by have := belowB_iff.1 c2; omega
  have HIN := Lib.hid (show ∀ x ∈ l, 0 ≤ x ∧ x ≤ 1000 from fun x hx => by
    have := belowB_iff.1 (List.all_eq_true.1 c4 x hx)
    have := hok.n2
    omega)
  have C4 := Lib.hid c4
  have HOK := Lib.hid hok
  rw [Hfin.out]
  simp only [Int.toNat_natCast]
  clear c1 c2 c4 hok
  generalize hday : (d : Int) = day at *
  unfold bookV
  go_enter Try.func21, Try.ntmps21
  go_wp2_with fail
  refine (open_any _ _ _ b [] _ (HL.out.kept (up_alloc up0 _)) (RowsAt.nil _)).mono ?_
  rintro e w1 ⟨rfl, hb⟩
  rw [deskE_nil, if_pos C1.out, C1.out]
  unfold deskV
  have hB := up_later (up_alloc (up0 (w := w)) (.cells #[iv b.n, iv b.w, .slice A1 b.ks.length cap1, .slice A2 b.ds.length cap2] 32)) hb
  clear hb
  go_wp2_with fail
  have B8 := Box.new (w := w1) (t := 98) (cs := #[iv b.n, iv b.w, .slice A1 b.ks.length cap1, .slice A2 b.ds.length cap2, .slice none 0 0]) rfl
  have HB := Lib.hid (up_alloc hB (.cells #[iv b.n, iv b.w, .slice A1 b.ks.length cap1, .slice A2 b.ds.length cap2, .slice none 0 0] 98))
  have B8 := Lib.hid B8
  refine (hasDay_any _ _ _ _ _ _ day _).mono ?_
  rintro e w2 ⟨rfl, hb⟩
  have HB := Lib.hid (up_later HB.out hb)
  have B8 := Lib.hid (B8.out.kept hb)
  clear hb
  rw [C2.out]
  have BB := B8.out
  have cB := fun i => BB.cell i
  have fB := fun i => BB.free i
  have lB := BB.lt
  have mB := Nat.lt_succ_of_lt lB
  go_wp2_with fail
  clear cB fB lB mB BB
  refine (every_plain _ l _ (fun x => belowB x b.n) _ (HV.out.kept HB.out) (fun x _ w1 _ => isPlain_any _ _ _ _ x w1)).mono ?_
  rintro e w3 ⟨rfl, hb⟩
  have HB := Lib.hid (up_later HB.out hb)
  have B8 := Lib.hid (B8.out.kept hb)
  clear hb
  rw [C4.out]
  have BB := B8.out
  have cB := fun i => BB.cell i
  have fB := fun i => BB.free i
  have lB := BB.lt
  have mB := Nat.lt_succ_of_lt lB
  go_wp2_with fail
  clear cB fB lB mB BB
  subst hday
  refine (dispatch_any _ _ _ _ b d l _ HOK.out (HL.out.kept HB.out) hd (HV.out.kept HB.out) HIN.out (by omega)).mono ?_
  rintro e w4 ⟨v, rfl, ho, hb⟩
  go_wp2_with fail
  go_ret2
  have e : (dispatchI b d l).length = l.length + 2 := by
    have := ho.1
    rw [List.length_map] at this
    omega
  rw [e]
  exact ⟨v, rfl, own_mono ho HB.out.size, up_later HB.out hb⟩

end Go.Proofs.Ytkhfkmfofhnmdaa
