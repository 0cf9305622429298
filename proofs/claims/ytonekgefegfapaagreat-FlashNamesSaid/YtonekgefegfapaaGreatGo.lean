/-
  WALKS of the reference's Step. Condition: strings of at most 1000 bytes.
-/
import Derived.Test.YtonekgefegfapaaGreatGm
namespace Go.Proofs.YtonekgefegfapaaGreat
open Go.RowKit

/-- What the reference asks of what is still to be sent. -/
def needR (k : Nat) (l : By) : Bool :=
  match k with
  | 1 => decide (0 < l.length) && !(l.head? == some 32)
  | k => needsB k l
def stepR (x : Int) (A B : By) : Option (Nat × Nat) := if 0 ≤ x ∧ x < 6 then if needR x.toNat A && Lib.hasPrefix B (writesL x.toNat A) then some (takesN x.toNat, (writesL x.toNat A).length) else none else none
theorem stepR_no1 {k : Nat} {A : By} (B : By) (h : needR k A = false) : stepR k A B = none := by
  unfold stepR
  rw [Int.toNat_natCast, h]
  simp
theorem stepR_no2 {k : Nat} {A B : By} (h : Lib.hasPrefix B (writesL k A) = false) : stepR k A B = none := by
  unfold stepR
  rw [Int.toNat_natCast, h]
  simp
theorem stepR_yes {k : Nat} {A B : By} (hk : k < 6) (h1 : needR k A = true) (h2 : Lib.hasPrefix B (writesL k A) = true) : stepR k A B = some (takesN k, (writesL k A).length) := by
  unfold stepR
  rw [Int.toNat_natCast, h1, h2, if_pos (by omega)]
  rfl
def stepV (x : Int) (A B : ByteArray) : Value := match stepR x A.data.toList B.data.toList with
  | none => .tuple #[.string ⟨#[]⟩, .string ⟨#[]⟩, .bool false]
  | some (i, j) => .tuple #[.string (A.extract i A.size), .string (B.extract j B.size), .bool true]
theorem stepV_none {x : Int} {A B : ByteArray} (h : stepR x A.data.toList B.data.toList = none) : stepV x A B = .tuple #[.string ⟨#[]⟩, .string ⟨#[]⟩, .bool false] := by unfold stepV; rw [h]
theorem stepV_some {x : Int} {A B : ByteArray} {i j : Nat} (h : stepR x A.data.toList B.data.toList = some (i, j)) : stepV x A B = .tuple #[.string (A.extract i A.size), .string (B.extract j B.size), .bool true] := by unfold stepV; rw [h]
theorem pre_short {B : By} {W : By} (h : B.length < W.length) : Lib.hasPrefix B W = false := by
  cases hp : Lib.hasPrefix B W with
  | false => rfl
  | true => have := hasPrefix_len hp; omega
theorem pre_take {B : ByteArray} {W : By} {n : Nat} (hn : W.length = n) (h : n ≤ B.size) : ((B.extract 0 n).toList == W) = Lib.hasPrefix B.data.toList W := by
  subst hn
  rw [Lib.size_eq] at h
  rw [← Lib.hasPrefix_of_take, Lib.extract_toList, decide_eq_true h]
  simp
theorem first_byte {A : ByteArray} {c : UInt8} {t : By} (h : A.data.toList = c :: t) : 0 < A.size ∧ (A.toList = [] ↔ False) ∧ A.toList.isEmpty = false ∧ ∀ w, (Instr.index 9 (.string A) (iv 0)).run Tryz.prog w = .ok (.int .u8 c.toNat) w := by
  have hs : 0 < A.size := by rw [Lib.size_eq, h]; simp
  refine ⟨hs, by rw [ByteArray.toList_eq, h]; simp, by rw [ByteArray.toList_eq, h]; rfl, fun w => ?_⟩
  rw [run_index_string w 9 A _ _ Tryz.underlying9, dif_pos (by omega)]
  have e : A[(0 : Int).toNat]'(by omega) = c := by
    have h2 : A.data.toList[0]? = some c := by rw [h]; rfl
    exact (List.getElem?_eq_some_iff.1 h2).2
  rw [e]
theorem cut_from {A : ByteArray} (n : Nat) (h : n ≤ A.size) : ∀ w, (Instr.slice 9 (.string A) (some (iv n)) none none).run Tryz.prog w = .ok (.string (A.extract n A.size)) w := fun w => by
  rw [run_slice_string_l w 9 A Tryz.underlying9 _ _ (by omega) (by omega)]
  rfl
theorem byte_ne {c d : UInt8} (h : ¬ c = d) {n : Int} (hn : (d.toNat : Int) = n) : ((c.toNat : Int) != n) = true ∧ ((c.toNat : Int) == n) = false := by
  have : ¬ (c.toNat : Int) = n := fun e => h (UInt8.toNat_inj.1 (by omega))
  exact ⟨bne_iff_ne.2 this, beq_eq_false_iff_ne.2 this⟩
theorem pre_ne {c d : UInt8} (h : ¬ c = d) (t r : By) : Lib.hasPrefix (c :: t) (d :: r) = false := by
  have e : (d == c) = false := beq_eq_false_iff_ne.2 (fun e => h e.symm)
  simp [Lib.hasPrefix, List.isPrefixOf, e]
set_option maxRecDepth 100000 in
set_option maxHeartbeats 1500000 in
theorem Step2_any (A B : ByteArray) (w : World) : Calls Tryz.prog 62 #[iv 2, .string A, .string B] w fun e w' => e = .returned (stepV 2 A B) ∧ Below w.heap.size w w' := by
  rcases hl : A.data.toList with _ | ⟨c, t⟩
  · have hn : needR 2 A.data.toList = false := by rw [hl]; rfl
    have HR := Lib.hid (stepR_no1 (k := 2) B.data.toList hn)
    have h0 : A.toList = [] := by rw [ByteArray.toList_eq, hl]
    clear hl
    clear hn
    go_enter Tryz.func62, Tryz.ntmps62
    go_wp2_with fail
    go_ret3
    exact ⟨congrArg Ending.returned (stepV_none HR.out).symm, up0⟩
  · obtain ⟨h0, h1, h2, hix⟩ := first_byte hl
    by_cases hc : c = 45
    · subst hc
      have hn : needR 2 A.data.toList = true := by rw [hl]; rfl
      have hw : writesL 2 A.data.toList = [46, 46] := rfl
      have cA := cut_from (A := A) 1 (by omega)
      clear hl
      by_cases hlt : B.size < 2
      · have HR := Lib.hid (stepR_no2 (k := 2) (A := A.data.toList) (B := B.data.toList) (by rw [hw]; exact pre_short (by rw [← Lib.size_eq]; exact hlt)))
        have hlt' : (B.size : Int) < 2 := by omega
        clear hw cA
        clear hn
        go_enter Tryz.func62, Tryz.ntmps62
        go_wp2_with fail
        go_ret3
        exact ⟨congrArg Ending.returned (stepV_none HR.out).symm, up0⟩
      · have hlt' : ¬ (B.size : Int) < 2 := by omega
        have hp2 := pre_take (B := B) (W := [46, 46]) (n := 2) rfl (by omega)
        cases hp : Lib.hasPrefix B.data.toList [46, 46] with
        | false =>
          have HR := Lib.hid (stepR_no2 (k := 2) (A := A.data.toList) (B := B.data.toList) (by rw [hw]; exact hp))
          rw [hp] at hp2
          clear hw cA hp
          clear hn
          go_enter Tryz.func62, Tryz.ntmps62
          go_wp2_with fail
          go_ret3
          exact ⟨congrArg Ending.returned (stepV_none HR.out).symm, up0⟩
        | true =>
          have HR := Lib.hid (stepR_yes (k := 2) (A := A.data.toList) (B := B.data.toList) (by decide) hn (by rw [hw]; exact hp))
          have HW := Lib.hid hw
          have cB := cut_from (A := B) 2 (by omega)
          rw [hp] at hp2
          clear hw hp hn
          go_enter Tryz.func62, Tryz.ntmps62
          go_wp2_with fail
          go_region
          go_wp2_with fail
          go_ret3
          have e := stepV_some HR.out
          rw [HW.out] at e
          exact ⟨congrArg Ending.returned e.symm, up_drew up0⟩
    · have hn : needR 2 A.data.toList = false := by
        rw [hl]
        exact pre_ne hc _ _
      have HR := Lib.hid (stepR_no1 (k := 2) B.data.toList hn)
      obtain ⟨hc1, hc2⟩ := byte_ne hc (n := 45) rfl
      clear hl
      clear hn
      go_enter Tryz.func62, Tryz.ntmps62
      go_wp2_with fail
      go_ret3
      exact ⟨congrArg Ending.returned (stepV_none HR.out).symm, up0⟩
set_option maxRecDepth 100000 in
set_option maxHeartbeats 1500000 in
theorem Step4_any (A B : ByteArray) (w : World) : Calls Tryz.prog 62 #[iv 4, .string A, .string B] w fun e w' => e = .returned (stepV 4 A B) ∧ Below w.heap.size w w' := by
  rcases hl : A.data.toList with _ | ⟨c, t⟩
  · have hn : needR 4 A.data.toList = false := by rw [hl]; rfl
    have HR := Lib.hid (stepR_no1 (k := 4) B.data.toList hn)
    have h0 : A.toList = [] := by rw [ByteArray.toList_eq, hl]
    clear hl
    clear hn
    go_enter Tryz.func62, Tryz.ntmps62
    go_wp2_with fail
    go_ret3
    exact ⟨congrArg Ending.returned (stepV_none HR.out).symm, up0⟩
  · obtain ⟨h0, h1, h2, hix⟩ := first_byte hl
    by_cases hc : c = 32
    · subst hc
      have hn : needR 4 A.data.toList = true := by rw [hl]; rfl
      have hw : writesL 4 A.data.toList = [] := rfl
      have cA := cut_from (A := A) 1 (by omega)
      clear hl
      have hp : Lib.hasPrefix B.data.toList [] = true := rfl
      have hp2 := pre_take (B := B) (W := []) (n := 0) rfl (by omega)
      rw [hp] at hp2
      have HR := Lib.hid (stepR_yes (k := 4) (A := A.data.toList) (B := B.data.toList) (by decide) hn (by rw [hw]; exact hp))
      have HW := Lib.hid hw
      have cB := cut_from (A := B) 0 (by omega)
      clear hw hp hn
      go_enter Tryz.func62, Tryz.ntmps62
      go_wp2_with fail
      go_region
      go_wp2_with fail
      go_ret3
      have e := stepV_some HR.out
      rw [HW.out] at e
      rw [show ([] : By).length = 0 from rfl, ByteArray.extract_zero_size] at e
      exact ⟨congrArg Ending.returned e.symm, up_drew up0⟩
    · have hn : needR 4 A.data.toList = false := by
        rw [hl]
        exact pre_ne hc _ _
      have HR := Lib.hid (stepR_no1 (k := 4) B.data.toList hn)
      obtain ⟨hc1, hc2⟩ := byte_ne hc (n := 32) rfl
      clear hl
      clear hn
      go_enter Tryz.func62, Tryz.ntmps62
      go_wp2_with fail
      go_ret3
      exact ⟨congrArg Ending.returned (stepV_none HR.out).symm, up0⟩
set_option maxRecDepth 100000 in
set_option maxHeartbeats 1500000 in
theorem Step1_any (A B : ByteArray) (w : World) : Calls Tryz.prog 62 #[iv 1, .string A, .string B] w fun e w' => e = .returned (stepV 1 A B) ∧ Below w.heap.size w w' := by
  rcases hl : A.data.toList with _ | ⟨c, t⟩
  · have hn : needR 1 A.data.toList = false := by rw [hl]; rfl
    have HR := Lib.hid (stepR_no1 (k := 1) B.data.toList hn)
    have h0 : A.toList = [] := by rw [ByteArray.toList_eq, hl]
    clear hl
    clear hn
    go_enter Tryz.func62, Tryz.ntmps62
    go_wp2_with fail
    go_ret3
    exact ⟨congrArg Ending.returned (stepV_none HR.out).symm, up0⟩
  · obtain ⟨h0, h1, h2, hix⟩ := first_byte hl
    by_cases hc : c = 32
    · subst hc
      have hn : needR 1 A.data.toList = false := by rw [hl]; rfl
      have HR := Lib.hid (stepR_no1 (k := 1) B.data.toList hn)
      clear hl
      clear hn
      go_enter Tryz.func62, Tryz.ntmps62
      go_wp2_with fail
      go_ret3
      exact ⟨congrArg Ending.returned (stepV_none HR.out).symm, up0⟩
    · have hn : needR 1 A.data.toList = true := by
        rw [hl]
        simp [needR, hc]
      obtain ⟨hc1, hc2⟩ := byte_ne hc (n := 32) rfl
      have hw : writesL 1 A.data.toList = [] := rfl
      have cA := cut_from (A := A) 1 (by omega)
      clear hl
      have hp : Lib.hasPrefix B.data.toList [] = true := rfl
      have hp2 := pre_take (B := B) (W := []) (n := 0) rfl (by omega)
      rw [hp] at hp2
      have HR := Lib.hid (stepR_yes (k := 1) (A := A.data.toList) (B := B.data.toList) (by decide) hn (by rw [hw]; exact hp))
      have HW := Lib.hid hw
      have cB := cut_from (A := B) 0 (by omega)
      clear hw hp hn
      go_enter Tryz.func62, Tryz.ntmps62
      go_wp2_with fail
      go_region
      go_wp2_with fail
      go_ret3
      have e := stepV_some HR.out
      rw [HW.out] at e
      rw [show ([] : By).length = 0 from rfl, ByteArray.extract_zero_size] at e
      exact ⟨congrArg Ending.returned e.symm, up_drew up0⟩
set_option maxRecDepth 100000 in
set_option maxHeartbeats 1500000 in
theorem Step5_any (A B : ByteArray) (w : World) : Calls Tryz.prog 62 #[iv 5, .string A, .string B] w fun e w' => e = .returned (stepV 5 A B) ∧ Below w.heap.size w w' := by
  have hn : needR 5 A.data.toList = true := rfl
  have hw : writesL 5 A.data.toList = [32] := rfl
  have cA := cut_from (A := A) 0 (by omega)
  by_cases hlt : B.size < 1
  · have HR := Lib.hid (stepR_no2 (k := 5) (A := A.data.toList) (B := B.data.toList) (by rw [hw]; exact pre_short (by rw [← Lib.size_eq]; exact hlt)))
    have hlt' : (B.size : Int) < 1 := by omega
    clear hw cA
    clear hn
    go_enter Tryz.func62, Tryz.ntmps62
    go_wp2_with fail
    go_ret3
    exact ⟨congrArg Ending.returned (stepV_none HR.out).symm, up0⟩
  · have hlt' : ¬ (B.size : Int) < 1 := by omega
    have hp2 := pre_take (B := B) (W := [32]) (n := 1) rfl (by omega)
    cases hp : Lib.hasPrefix B.data.toList [32] with
    | false =>
      have HR := Lib.hid (stepR_no2 (k := 5) (A := A.data.toList) (B := B.data.toList) (by rw [hw]; exact hp))
      rw [hp] at hp2
      clear hw cA hp
      clear hn
      go_enter Tryz.func62, Tryz.ntmps62
      go_wp2_with fail
      go_ret3
      exact ⟨congrArg Ending.returned (stepV_none HR.out).symm, up0⟩
    | true =>
      have HR := Lib.hid (stepR_yes (k := 5) (A := A.data.toList) (B := B.data.toList) (by decide) hn (by rw [hw]; exact hp))
      have HW := Lib.hid hw
      have cB := cut_from (A := B) 1 (by omega)
      rw [hp] at hp2
      clear hw hp hn
      go_enter Tryz.func62, Tryz.ntmps62
      go_wp2_with fail
      go_region
      go_wp2_with fail
      go_ret3
      have e := stepV_some HR.out
      rw [HW.out] at e
      rw [show takesN 5 = 0 from rfl, ByteArray.extract_zero_size] at e
      exact ⟨congrArg Ending.returned e.symm, up_drew up0⟩
set_option maxRecDepth 100000 in
set_option maxHeartbeats 1500000 in
theorem Step3_any (A B : ByteArray) (w : World) : Calls Tryz.prog 62 #[iv 3, .string A, .string B] w fun e w' => e = .returned (stepV 3 A B) ∧ Below w.heap.size w w' := by
  have hq := pre_take (B := A) (W := [46, 46]) (n := 2) rfl
  by_cases ha : A.size < 2
  · have hn : needR 3 A.data.toList = false := pre_short (by rw [← Lib.size_eq]; exact ha)
    have HR := Lib.hid (stepR_no1 (k := 3) B.data.toList hn)
    have ha' : (A.size : Int) < 2 := by omega
    clear hq
    clear hn
    go_enter Tryz.func62, Tryz.ntmps62
    go_wp2_with fail
    go_ret3
    exact ⟨congrArg Ending.returned (stepV_none HR.out).symm, up0⟩
  · have ha' : ¬ (A.size : Int) < 2 := by omega
    have hq := hq (by omega)
    cases hn : needR 3 A.data.toList with
    | false =>
      have HR := Lib.hid (stepR_no1 (k := 3) B.data.toList hn)
      rw [show Lib.hasPrefix A.data.toList [46, 46] = false from hn] at hq
      clear hn
      go_enter Tryz.func62, Tryz.ntmps62
      go_wp2_with fail
      go_ret3
      exact ⟨congrArg Ending.returned (stepV_none HR.out).symm, up0⟩
    | true =>
      rw [show Lib.hasPrefix A.data.toList [46, 46] = true from hn] at hq
      have hw : writesL 3 A.data.toList = [45] := rfl
      have cA := cut_from (A := A) 2 (by omega)
      by_cases hlt : B.size < 1
      · have HR := Lib.hid (stepR_no2 (k := 3) (A := A.data.toList) (B := B.data.toList) (by rw [hw]; exact pre_short (by rw [← Lib.size_eq]; exact hlt)))
        have hlt' : (B.size : Int) < 1 := by omega
        clear hw cA
        clear hn
        go_enter Tryz.func62, Tryz.ntmps62
        go_wp2_with fail
        go_ret3
        exact ⟨congrArg Ending.returned (stepV_none HR.out).symm, up0⟩
      · have hlt' : ¬ (B.size : Int) < 1 := by omega
        have hp2 := pre_take (B := B) (W := [45]) (n := 1) rfl (by omega)
        cases hp : Lib.hasPrefix B.data.toList [45] with
        | false =>
          have HR := Lib.hid (stepR_no2 (k := 3) (A := A.data.toList) (B := B.data.toList) (by rw [hw]; exact hp))
          rw [hp] at hp2
          clear hw cA hp
          clear hn
          go_enter Tryz.func62, Tryz.ntmps62
          go_wp2_with fail
          go_ret3
          exact ⟨congrArg Ending.returned (stepV_none HR.out).symm, up0⟩
        | true =>
          have HR := Lib.hid (stepR_yes (k := 3) (A := A.data.toList) (B := B.data.toList) (by decide) hn (by rw [hw]; exact hp))
          have HW := Lib.hid hw
          have cB := cut_from (A := B) 1 (by omega)
          rw [hp] at hp2
          clear hw hp hn
          go_enter Tryz.func62, Tryz.ntmps62
          go_wp2_with fail
          go_region
          go_wp2_with fail
          go_ret3
          have e := stepV_some HR.out
          rw [HW.out] at e
          exact ⟨congrArg Ending.returned e.symm, up_drew up0⟩
set_option maxRecDepth 100000 in
set_option maxHeartbeats 1500000 in
theorem Step0_any (A B : ByteArray) (w : World) : Calls Tryz.prog 62 #[iv 0, .string A, .string B] w fun e w' => e = .returned (stepV 0 A B) ∧ Below w.heap.size w w' := by
  rcases hl : A.data.toList with _ | ⟨c, t⟩
  · have hn : needR 0 A.data.toList = false := by rw [hl]; rfl
    have HR := Lib.hid (stepR_no1 (k := 0) B.data.toList hn)
    have h0 : A.toList = [] := by rw [ByteArray.toList_eq, hl]
    clear hl
    clear hn
    go_enter Tryz.func62, Tryz.ntmps62
    go_wp2_with fail
    go_ret3
    exact ⟨congrArg Ending.returned (stepV_none HR.out).symm, up0⟩
  · obtain ⟨h0, h1, h2, hix⟩ := first_byte hl
    have hn : needR 0 A.data.toList = true := by rw [hl]; simp [needR, needsB]
    have hw : writesL 0 A.data.toList = [c] := by rw [hl]; rfl
    have cA := cut_from (A := A) 1 (by omega)
    obtain ⟨X, hX⟩ : ∃ X, A.extract 0 1 = X := ⟨_, rfl⟩
    have cX : ∀ w, (Instr.slice 9 (.string A) none (some (iv 1)) none).run Tryz.prog w = .ok (.string X) w := fun w => by
      rw [run_slice_string_h w 9 A Tryz.underlying9 _ _ (by omega) (by omega), ← hX]
      rfl
    have hXl : X.toList = [c] := by rw [← hX, Lib.extract_toList, hl]; rfl
    have hXs : X.size = 1 := by rw [Lib.size_eq, ← ByteArray.toList_eq, hXl]; rfl
    clear hl hX
    by_cases hlt : B.size < 1
    · have HR := Lib.hid (stepR_no2 (k := 0) (A := A.data.toList) (B := B.data.toList) (by rw [hw]; exact pre_short (by rw [← Lib.size_eq]; exact hlt)))
      have hlt' : (B.size : Int) < 1 := by omega
      clear hw cA
      clear hn
      go_enter Tryz.func62, Tryz.ntmps62
      go_wp2_with fail
      go_ret3
      exact ⟨congrArg Ending.returned (stepV_none HR.out).symm, up0⟩
    · have hlt' : ¬ (B.size : Int) < 1 := by omega
      have hp2 := pre_take (B := B) (W := [c]) (n := 1) rfl (by omega)
      cases hp : Lib.hasPrefix B.data.toList [c] with
      | false =>
        have HR := Lib.hid (stepR_no2 (k := 0) (A := A.data.toList) (B := B.data.toList) (by rw [hw]; exact hp))
        rw [hp] at hp2
        clear hw cA hp
        clear hn
        go_enter Tryz.func62, Tryz.ntmps62
        go_wp2_with fail
        go_ret3
        exact ⟨congrArg Ending.returned (stepV_none HR.out).symm, up0⟩
      | true =>
        have HR := Lib.hid (stepR_yes (k := 0) (A := A.data.toList) (B := B.data.toList) (by decide) hn (by rw [hw]; exact hp))
        have HW := Lib.hid hw
        have cB := cut_from (A := B) 1 (by omega)
        rw [hp] at hp2
        clear hw hp hn
        go_enter Tryz.func62, Tryz.ntmps62
        go_wp2_with fail
        go_region
        go_wp2_with fail
        go_ret3
        have e := stepV_some HR.out
        rw [HW.out] at e
        exact ⟨congrArg Ending.returned e.symm, up_drew up0⟩
end Go.Proofs.YtonekgefegfapaaGreat
