/-
  WALK of shortest. Conditions: at most 1000 texts of at most 1000 letters; all letters together tell the texts apart.
-/
import Derived.Test.YtonekgefegfapaaGreatFy
namespace Go.Proofs.YtonekgefegfapaaGreat
open Go.RowKit

/-- The first part that decides: the shortest, then the first. -/
structure IsShort (ts : List (List Int)) (f m : Nat) : Prop where
  f5 : f < 5
  m5 : m ≤ 5
  yes : decB ts f m = true
  few : ∀ m', m' < m → ∀ f', f' < 5 → decB ts f' m' = false
  fst : ∀ f', f' < f → decB ts f' m = false
set_option maxRecDepth 100000 in
set_option maxHeartbeats 1500000 in
theorem shortest_any (v : Value) (ts : List (List Int)) (w : World) (ht : TextsAt w v ts) (hd : decB ts 0 5 = true) : Calls Tryz.prog 70 #[v] w fun e w' => ∃ f m : Nat, IsShort ts f m ∧ e = .returned (.tuple #[iv f, iv m]) ∧ Below w.heap.size w w' := by
  have HT := Lib.hid ht
  have HD := Lib.hid hd
  clear ht hd
  go_enter Tryz.func70, Tryz.ntmps70
  go_wp2_with fail
  go_step3
  go_wp2_with fail
  go_step3
  go_wp2_with fail
  go_loopw [4] (fun i wr => ∃ m : Nat, m ≤ 5 ∧ i = iv m ∧ Hid (∀ m', m' < m → ∀ f', f' < 5 → decB ts f' m' = false) ∧ Below w.heap.size w wr) (fun i _ => 6 - (intOf i).toNat)
  case atStart => exact ⟨0, by omega, rfl, Lib.hid (fun m' h => absurd h (Nat.not_lt_zero _)), Below.refl _ _⟩
  case round =>
    obtain ⟨m, hm, rfl, HF, hB⟩ := hrel
    have hm6 : (m : Int) < 6 := by omega
    go_wp2_with fail
    go_loopw [7] (fun i wr => ∃ f : Nat, f ≤ 5 ∧ i = iv f ∧ Hid (∀ f', f' < f → decB ts f' m = false) ∧ Below w.heap.size w wr) (fun i _ => 5 - (intOf i).toNat)
    case atStart => exact ⟨0, by omega, rfl, Lib.hid (fun m' h => absurd h (Nat.not_lt_zero _)), hB⟩
    case round =>
      obtain ⟨f, hf, rfl, HG, hB1⟩ := hrel
      by_cases hlt : f < 5
      · have hlt' : (f : Int) < 5 := by omega
        cases hd : decB ts f m with
        | true =>
          have HY := Lib.hid hd
          go_wp2_with fail
          refine (decides_any v ts f m _ (HT.out.kept hB1) (by omega)).mono ?_
          rintro e w1 ⟨rfl, hb⟩
          have hB2 := up_later hB1 hb
          rw [hd]
          clear hb hd
          go_wp2_with fail
          rw [Exit.noGoto_ret]
          go_ret2
          exact ⟨f, m, ⟨hlt, hm, HY.out, HF.out, HG.out⟩, rfl, hB2⟩
        | false =>
          have HY := Lib.hid hd
          go_wp2_with fail
          refine (decides_any v ts f m _ (HT.out.kept hB1) (by omega)).mono ?_
          rintro e w1 ⟨rfl, hb⟩
          have hB2 := up_later hB1 hb
          rw [hd]
          clear hb hd
          go_wp2_with fail
          go_roundw
          case rel => exact ⟨f + 1, by omega, by go_num, Lib.hid (fun f' hf' => by
            rcases Nat.lt_or_ge f' f with h | h
            · exact HG.out f' h
            · obtain rfl : f' = f := by omega
              exact HY.out), hB2⟩
          case measure => simp [intOf]; omega
      · have hm5 : m < 5 := by
          rcases Nat.lt_or_ge m 5 with h | h
          · exact h
          · obtain rfl : m = 5 := by omega
            have := HG.out 0 (by omega)
            rw [HD.out] at this
            cases this
        go_wp2_with fail
        go_roundw
        case rel => exact ⟨m + 1, by omega, by go_num, Lib.hid (fun m' hm' f' hf' => by
            rcases Nat.lt_or_ge m' m with h | h
            · exact HF.out m' h f' hf'
            · obtain rfl : m' = m := by omega
              exact HG.out f' (by omega)), hB1⟩
        case measure => simp [intOf]; omega
end Go.Proofs.YtonekgefegfapaaGreat
