/-
  WALKS of the steps' own functions: what each needs, and what it writes. No condition.
-/
import Derived.Test.YtonekgefegfapaaGreatChecked
import Derived.Test.YtonekgefegfapaaGreatFa
import Derived.Test.YtonekgefegfapaaGreatCp
import Derived.WalkKit
import Derived.WalkSpells
import Derived.WalkLawsBesides
import Derived.Lib.Hide
import Derived.RegionTactic
import Derived.BigRegion
import Derived.Deep.QuietTactic
import Derived.BigQuiet
import Derived.Deep.RegionWith
import Derived.Lib.Slices
import Derived.Lib.Walk
namespace Go.Proofs.YtonekgefegfapaaGreat
open Go.RowKit

abbrev sv (s : ByteArray) : Value := .string s
abbrev by_ (s : ByteArray) : By := s.data.toList
set_option maxHeartbeats 1000000 in
theorem hasPrefix_lib (s p : ByteArray) (w : World) : Calls Tryz.prog 125 #[.string s, .string p] w fun e w' => e = .returned (.bool (Lib.hasPrefix s.data.toList p.data.toList)) ∧ w' = w := by
  rw [← Lib.hasPrefix_of_take, ← Lib.size_eq, ← Lib.size_eq]
  go_enter Tryz.func125, Tryz.ntmps125
  go_wp2
  · rename_i h
    go_ret
    refine ⟨?_, rfl⟩
    show Ending.returned (Value.bool ((s.extract 0 p.size).toList == p.toList)) = _
    rw [Lib.extract_toList, Lib.toList_data]
    simp [h]
  · rename_i h
    go_ret
    refine ⟨?_, rfl⟩
    show Ending.returned (Value.bool false) = _
    simp [h]
set_option maxHeartbeats 400000 in
theorem HasPrefix_any (s p : ByteArray) (w : World) : Calls Tryz.prog 113 #[.string s, .string p] w fun e w' => e = .returned (.bool (Lib.hasPrefix s.data.toList p.data.toList)) ∧ w' = w := by
  go_enter Tryz.func113, Tryz.ntmps113
  go_wp2_with (go_at_call 125; refine (hasPrefix_lib _ _ _).mono ?_; rintro e w' ⟨rfl, rfl⟩)
  go_ret
  exact ⟨rfl, rfl⟩
set_option maxHeartbeats 400000 in
theorem begins_any (s p : ByteArray) (w : World) : Calls Tryz.prog 124 #[.string s, .string p] w fun e w' => e = .returned (.bool (Lib.hasPrefix s.data.toList p.data.toList)) ∧ w' = w := by
  go_enter Tryz.func124, Tryz.ntmps124
  go_wp2_with (go_at_call 113; refine (HasPrefix_any _ _ _).mono ?_; rintro e w' ⟨rfl, rfl⟩)
  go_ret
  exact ⟨rfl, rfl⟩
set_option maxHeartbeats 400000 in
theorem long_any (s : ByteArray) (w : World) : Calls Tryz.prog 106 #[.string s] w fun e w' => e = .returned (.bool (needsB 2 s.data.toList)) ∧ w' = w := by
  go_enter Tryz.func106, Tryz.ntmps106
  go_wp2_with (go_at_call 124; refine (begins_any _ _ _).mono ?_; rintro e w' ⟨rfl, rfl⟩)
  go_ret
  exact ⟨rfl, rfl⟩
set_option maxHeartbeats 400000 in
theorem twoPoints_any (s : ByteArray) (w : World) : Calls Tryz.prog 108 #[.string s] w fun e w' => e = .returned (.bool (needsB 3 s.data.toList)) ∧ w' = w := by
  go_enter Tryz.func108, Tryz.ntmps108
  go_wp2_with (go_at_call 124; refine (begins_any _ _ _).mono ?_; rintro e w' ⟨rfl, rfl⟩)
  go_ret
  exact ⟨rfl, rfl⟩
set_option maxHeartbeats 400000 in
theorem gap_any (s : ByteArray) (w : World) : Calls Tryz.prog 110 #[.string s] w fun e w' => e = .returned (.bool (needsB 4 s.data.toList)) ∧ w' = w := by
  go_enter Tryz.func110, Tryz.ntmps110
  go_wp2_with (go_at_call 124; refine (begins_any _ _ _).mono ?_; rintro e w' ⟨rfl, rfl⟩)
  go_ret
  exact ⟨rfl, rfl⟩
set_option maxHeartbeats 400000 in
theorem whatever_any (s : ByteArray) (w : World) : Calls Tryz.prog 111 #[.string s] w fun e w' => e = .returned (.bool (needsB 5 s.data.toList)) ∧ w' = w := by
  go_enter Tryz.func111, Tryz.ntmps111
  go_wp2_with (go_at_call 124; refine (begins_any _ _ _).mono ?_; rintro e w' ⟨rfl, rfl⟩)
  go_ret
  exact ⟨rfl, rfl⟩
set_option maxHeartbeats 400000 in
theorem some_any (s : ByteArray) (w : World) : Calls Tryz.prog 102 #[.string s] w fun e w' => e = .returned (.bool (needsB 0 s.data.toList)) ∧ w' = w := by
  go_enter Tryz.func102, Tryz.ntmps102
  go_wp2_with fail
  go_ret
  refine ⟨ret_bool ?_, rfl⟩
  rw [Lib.size_eq]
  simp [needsB]
set_option maxHeartbeats 400000 in
theorem flash_any (s : ByteArray) (w : World) : Calls Tryz.prog 104 #[.string s] w fun e w' => e = .returned (.bool (needsB 1 s.data.toList)) ∧ w' = w := by
  cases h : Lib.hasPrefix s.data.toList [46] with
  | true =>
    have hr := Lib.hid (show needsB 1 s.data.toList = true by simp [needsB, h])
    have hh := Lib.hid (show Lib.hasPrefix s.data.toList (ByteArray.mk #[46]).data.toList = true from h)
    clear h
    go_enter Tryz.func104, Tryz.ntmps104
    go_wp2_with (go_at_call 124; refine (begins_any _ _ _).mono ?_; rintro e w' ⟨rfl, rfl⟩; rw [hh.out])
    go_ret
    exact ⟨by rw [hr.out]; rfl, rfl⟩
  | false =>
    have hr := Lib.hid (show needsB 1 s.data.toList = Lib.hasPrefix s.data.toList [45] by simp [needsB, h])
    have hh := Lib.hid (show Lib.hasPrefix s.data.toList (ByteArray.mk #[46]).data.toList = false from h)
    clear h
    go_enter Tryz.func104, Tryz.ntmps104
    go_wp2_with fail
    refine (begins_any _ _ _).mono ?_
    rintro e w' ⟨rfl, rfl⟩
    rw [hh.out]
    go_wp2_with fail
    refine (begins_any _ _ _).mono ?_
    rintro e w' ⟨rfl, rfl⟩
    go_wp2_with fail
    go_ret
    exact ⟨by rw [hr.out]; rfl, rfl⟩
set_option maxHeartbeats 400000 in
theorem nothing1_any (s : ByteArray) (w : World) : Calls Tryz.prog 105 #[.string s] w fun e w' => ∃ t, e = .returned (.string t) ∧ t.data.toList = writesL 1 s.data.toList ∧ w' = w := by
  go_enter Tryz.func105, Tryz.ntmps105
  go_wp2_with fail
  go_ret
  exact ⟨_, rfl, rfl, rfl⟩
set_option maxHeartbeats 400000 in
theorem asShort_any (s : ByteArray) (w : World) : Calls Tryz.prog 107 #[.string s] w fun e w' => ∃ t, e = .returned (.string t) ∧ t.data.toList = writesL 2 s.data.toList ∧ w' = w := by
  go_enter Tryz.func107, Tryz.ntmps107
  go_wp2_with fail
  go_ret
  exact ⟨_, rfl, rfl, rfl⟩
set_option maxHeartbeats 400000 in
theorem asLong_any (s : ByteArray) (w : World) : Calls Tryz.prog 109 #[.string s] w fun e w' => ∃ t, e = .returned (.string t) ∧ t.data.toList = writesL 3 s.data.toList ∧ w' = w := by
  go_enter Tryz.func109, Tryz.ntmps109
  go_wp2_with fail
  go_ret
  exact ⟨_, rfl, rfl, rfl⟩
set_option maxHeartbeats 400000 in
theorem nothing4_any (s : ByteArray) (w : World) : Calls Tryz.prog 105 #[.string s] w fun e w' => ∃ t, e = .returned (.string t) ∧ t.data.toList = writesL 4 s.data.toList ∧ w' = w := by
  go_enter Tryz.func105, Tryz.ntmps105
  go_wp2_with fail
  go_ret
  exact ⟨_, rfl, rfl, rfl⟩
set_option maxHeartbeats 400000 in
theorem asGap_any (s : ByteArray) (w : World) : Calls Tryz.prog 112 #[.string s] w fun e w' => ∃ t, e = .returned (.string t) ∧ t.data.toList = writesL 5 s.data.toList ∧ w' = w := by
  go_enter Tryz.func112, Tryz.ntmps112
  go_wp2_with fail
  go_ret
  exact ⟨_, rfl, rfl, rfl⟩
set_option maxHeartbeats 400000 in
theorem same_any' (s : ByteArray) (w : World) (h : 0 < s.size) : Calls Tryz.prog 103 #[.string s] w fun e w' => ∃ t, e = .returned (.string t) ∧ t.data.toList = writesL 0 s.data.toList ∧ w' = w := by
  have h1 : 1 ≤ s.size := h
  have h2 : ¬ s.size < 1 := by omega
  go_enter Tryz.func103, Tryz.ntmps103
  go_wp2_with fail
  go_ret
  exact ⟨_, rfl, by rw [Lib.extract_data]; rfl, rfl⟩
end Go.Proofs.YtonekgefegfapaaGreat
