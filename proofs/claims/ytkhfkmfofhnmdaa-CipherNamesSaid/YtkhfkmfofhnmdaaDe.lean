/-
  WALK of the law's 'awake': it returns true. No condition.
-/
import Derived.Test.YtkhfkmfofhnmdaaDc
namespace Go.Proofs.Ytkhfkmfofhnmdaa
open Go.RowKit Go.Shelf
attribute [local go_sem] Oper.semAt_some

theorem code0 : codeE bk0 0 [4, 11, 4] = ([0, 11, 0, 0, 9], 0) := by decide +kernel
theorem decode0 : decodeE bk0 0 [0, 11, 0, 0, 9] = ([4, 11, 4], [4, 4], 0) := by decide +kernel
theorem exposed0 : exposedE bk0 [⟨0, 1⟩] = ([1, 1, -1], 0) := by decide +kernel
theorem plan0 : planE bk0 [⟨0, 1⟩] 2 = ([0, 1, 1], 1, 0) := by decide +kernel
theorem fits0 : fitsE bk0 [11, 0, 0] [⟨0, 4⟩, ⟨2, 4⟩] = (12, 0) := by decide +kernel
theorem guesses0 {w : World} {g : Nat} (h : Box w g 74 #[iv 0, iv 4, iv 2, iv 4]) : RowsAt w (.slice (some ⟨g, 0, none⟩) 2 2) 2 Gs.cells [⟨0, 4⟩, ⟨2, 4⟩] :=
  ⟨by decide, _, _, rfl, by decide, by decide, fun _ => ⟨g, 0, rfl, h.lt, fun i x hx j u hu => by
    rw [h.cell]
    rcases i with _ | _ | i
    · obtain rfl : x = ⟨0, 4⟩ := by simpa using hx.symm
      rcases j with _ | _ | j
      · obtain rfl : u = iv 0 := by simpa [Gs.cells] using hu.symm
        rfl
      · obtain rfl : u = iv 4 := by simpa [Gs.cells] using hu.symm
        rfl
      · simp [Gs.cells] at hu
    · obtain rfl : x = ⟨2, 4⟩ := by simpa using hx.symm
      rcases j with _ | _ | j
      · obtain rfl : u = iv 2 := by simpa [Gs.cells] using hu.symm
        rfl
      · obtain rfl : u = iv 4 := by simpa [Gs.cells] using hu.symm
        rfl
      · simp [Gs.cells] at hu
    · simp at hx⟩⟩

set_option maxRecDepth 100000 in
set_option maxHeartbeats 4000000 in
theorem awake_any (w : World) : Calls Try.prog 18 #[] w fun e w' => e = .returned (.bool true) ∧ Below w.heap.size w w' := by
  have hB := up0 (w := w)
  go_enter Try.func18, Try.ntmps18
  go_wp2_with fail
  refine (book0_any _).mono ?_
  rintro e w1 ⟨v1, v2, rfl, hL, hb⟩
  have HL := Lib.hid hL
  have hB := up_later hB hb
  clear hL hb
  unfold bookV
  go_wp2_with fail
  refine (Code_any _ _ _ bk0 0 [4, 11, 4] _ (HL.out.kept (up_alloc up0 _)) (ints_box (Box.new rfl) (by decide))).mono ?_
  rintro e w2 ⟨c, rfl, hc, hb⟩
  rw [code0] at hc ⊢
  have HC := Lib.hid (ints_of_own hc rfl (by decide))
  have hB := up_later (up_alloc hB (.cells #[iv 4, iv 11, iv 4] 3)) hb
  clear hc hb HL
  go_wp2_with fail
  refine (book0_any _).mono ?_
  rintro e w3 ⟨v3, v4, rfl, hL, hb⟩
  have HL := Lib.hid hL
  have HC := Lib.hid (HC.out.kept hb)
  have hB := up_later hB hb
  clear hL hb
  unfold bookV
  go_wp2_with fail
  refine (Decode_any _ _ _ bk0 0 [0, 11, 0, 0, 9] _ (HL.out.kept (up_alloc up0 _)) (ints_box (Box.new rfl) (by decide))).mono ?_
  rintro e w4 ⟨p, wd, rfl, hp, hw, hb⟩
  rw [decode0] at hp hw ⊢
  have HP := Lib.hid hp
  have HW := Lib.hid hw
  have HC := Lib.hid ((HC.out.kept (up_alloc up0 (.cells #[iv 0, iv 11, iv 0, iv 0, iv 9] 3))).kept hb)
  have hB := up_later (up_alloc hB (.cells #[iv 0, iv 11, iv 0, iv 0, iv 9] 3)) hb
  clear hp hw hb HL
  go_wp2_with fail
  refine (book0_any _).mono ?_
  rintro e w5 ⟨v5, v6, rfl, hL, hb⟩
  have HL := Lib.hid hL
  have HC := Lib.hid (HC.out.kept hb)
  have HP := Lib.hid (HP.out.kept hb)
  have HW := Lib.hid (HW.out.kept hb)
  have hB := up_later hB hb
  clear hL hb
  unfold bookV
  go_wp2_with fail
  refine (early0_any _).mono ?_
  rintro e w6 ⟨v7, rfl, he, hb⟩
  have HE := Lib.hid he
  have HL := Lib.hid (HL.out.kept hb)
  have HC := Lib.hid (HC.out.kept hb)
  have HP := Lib.hid (HP.out.kept hb)
  have HW := Lib.hid (HW.out.kept hb)
  have hB := up_later hB hb
  clear he hb
  go_wp2_with fail
  refine (Exposed_any _ _ _ bk0 [⟨0, 1⟩] _ HL.out HE.out).mono ?_
  rintro e w7 ⟨x, rfl, hx, hb⟩
  rw [exposed0] at hx ⊢
  have HX := Lib.hid (ints_of_own hx rfl (by decide))
  have HC := Lib.hid (HC.out.kept hb)
  have HP := Lib.hid (HP.out.kept hb)
  have HW := Lib.hid (HW.out.kept hb)
  have hB := up_later hB hb
  clear hx hb HL HE
  go_wp2_with fail
  refine (book0_any _).mono ?_
  rintro e w8 ⟨v8, v9, rfl, hL, hb⟩
  have HL := Lib.hid hL
  have HC := Lib.hid (HC.out.kept hb)
  have HP := Lib.hid (HP.out.kept hb)
  have HW := Lib.hid (HW.out.kept hb)
  have HX := Lib.hid (HX.out.kept hb)
  have hB := up_later hB hb
  clear hL hb
  unfold bookV
  go_wp2_with fail
  refine (early0_any _).mono ?_
  rintro e w9 ⟨va, rfl, he, hb⟩
  have HE := Lib.hid he
  have HL := Lib.hid (HL.out.kept hb)
  have HC := Lib.hid (HC.out.kept hb)
  have HP := Lib.hid (HP.out.kept hb)
  have HW := Lib.hid (HW.out.kept hb)
  have HX := Lib.hid (HX.out.kept hb)
  have hB := up_later hB hb
  clear he hb
  go_wp2_with fail
  refine (Plan_any _ _ _ bk0 [⟨0, 1⟩] 2 _ HL.out HE.out).mono ?_
  rintro e wa ⟨pl, rfl, hpl, hb⟩
  rw [plan0] at hpl ⊢
  have HN := Lib.hid hpl
  have HC := Lib.hid (HC.out.kept hb)
  have HP := Lib.hid (HP.out.kept hb)
  have HW := Lib.hid (HW.out.kept hb)
  have HX := Lib.hid (HX.out.kept hb)
  have hB := up_later hB hb
  clear hpl hb HL HE
  go_wp2_with fail
  refine (book0_any _).mono ?_
  rintro e wb ⟨vb, vc, rfl, hL, hb⟩
  have HL := Lib.hid hL
  have HC := Lib.hid (HC.out.kept hb)
  have HP := Lib.hid (HP.out.kept hb)
  have HW := Lib.hid (HW.out.kept hb)
  have HX := Lib.hid (HX.out.kept hb)
  have HN := Lib.hid (HN.out.kept hb)
  have hB := up_later hB hb
  clear hL hb
  unfold bookV
  go_wp2_with fail
  refine (Fits_any _ _ _ _ bk0 [11, 0, 0] [⟨0, 4⟩, ⟨2, 4⟩] _ (HL.out.kept (up_alloc (up_alloc up0 _) _)) ((ints_box (l := [11, 0, 0]) (Box.new rfl) (by decide)).kept (up_alloc up0 _)) (guesses0 (Box.new (by simp)))).mono ?_
  rintro e wc ⟨rfl, hb⟩
  rw [fits0]
  have hb := up_later (up_alloc (up_alloc (up0 (w := wb)) (.cells #[iv 11, iv 0, iv 0] 3)) (.cells #[iv 0, iv 4, iv 2, iv 4] 74)) hb
  have HC := Lib.hid (HC.out.kept hb)
  have HP := Lib.hid (HP.out.kept hb)
  have HW := Lib.hid (HW.out.kept hb)
  have HX := Lib.hid (HX.out.kept hb)
  have HN := Lib.hid (HN.out.kept hb)
  have hB := up_later hB hb
  clear hb HL
  go_wp2_with fail
  refine (same_any _ _ [0, 11, 0, 0, 9] [0, 11, 0, 0, 9] _ (HC.out.kept (up_alloc up0 _)) (ints_box (Box.new rfl) (by decide))).mono ?_
  rintro e wd ⟨rfl, hb⟩
  have HP := Lib.hid ((HP.out.kept (up_alloc up0 (.cells #[iv 0, iv 11, iv 0, iv 0, iv 9] 3))).kept hb)
  have HW := Lib.hid ((HW.out.kept (up_alloc up0 (.cells #[iv 0, iv 11, iv 0, iv 0, iv 9] 3))).kept hb)
  have HX := Lib.hid ((HX.out.kept (up_alloc up0 (.cells #[iv 0, iv 11, iv 0, iv 0, iv 9] 3))).kept hb)
  have HN := Lib.hid ((HN.out.kept (up_alloc up0 (.cells #[iv 0, iv 11, iv 0, iv 0, iv 9] 3))).kept hb)
  have hB := up_later (up_alloc hB (.cells #[iv 0, iv 11, iv 0, iv 0, iv 9] 3)) hb
  clear hb
  go_wp2_with fail
  refine (same_any _ _ [4, 11, 4] [4, 11, 4] _ (HP.out.kept (up_alloc up0 _)) (ints_box (Box.new rfl) (by decide))).mono ?_
  rintro e we ⟨rfl, hb⟩
  have HW := Lib.hid ((HW.out.kept (up_alloc up0 (.cells #[iv 4, iv 11, iv 4] 3))).kept hb)
  have HX := Lib.hid ((HX.out.kept (up_alloc up0 (.cells #[iv 4, iv 11, iv 4] 3))).kept hb)
  have HN := Lib.hid ((HN.out.kept (up_alloc up0 (.cells #[iv 4, iv 11, iv 4] 3))).kept hb)
  have hB := up_later (up_alloc hB (.cells #[iv 4, iv 11, iv 4] 3)) hb
  clear hb
  go_wp2_with fail
  refine (same_any _ _ [4, 4] [4, 4] _ (HW.out.kept (up_alloc up0 _)) (ints_box (Box.new rfl) (by decide))).mono ?_
  rintro e wf ⟨rfl, hb⟩
  have HX := Lib.hid ((HX.out.kept (up_alloc up0 (.cells #[iv 4, iv 4] 3))).kept hb)
  have HN := Lib.hid ((HN.out.kept (up_alloc up0 (.cells #[iv 4, iv 4] 3))).kept hb)
  have hB := up_later (up_alloc hB (.cells #[iv 4, iv 4] 3)) hb
  clear hb
  go_wp2_with fail
  refine (same_any _ _ [1, 1, -1] [1, 1, -1] _ (HX.out.kept (up_alloc up0 _)) (ints_box (Box.new rfl) (by decide))).mono ?_
  rintro e wg ⟨rfl, hb⟩
  have HN := Lib.hid ((HN.out.kept (up_alloc up0 (.cells #[iv 1, iv 1, iv (-1)] 3))).kept hb)
  have hB := up_later (up_alloc hB (.cells #[iv 1, iv 1, iv (-1)] 3)) hb
  clear hb
  go_wp2_with fail
  refine (same_any _ _ [0, 1, 1] [0, 1, 1] _ (HN.out.kept (up_alloc up0 _)) (ints_box (Box.new rfl) (by decide))).mono ?_
  rintro e wh ⟨rfl, hb⟩
  have hB := up_later (up_alloc hB (.cells #[iv 0, iv 1, iv 1] 3)) hb
  clear hb
  go_wp2_with fail
  go_ret
  exact ⟨rfl, hB⟩
end Go.Proofs.Ytkhfkmfofhnmdaa
