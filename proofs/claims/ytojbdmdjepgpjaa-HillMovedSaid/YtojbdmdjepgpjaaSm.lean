/-
  WALK of 'smallest'. Conditions: at most 1000 numbers, each from 0 to 1000.
-/
import Derived.Test.YtojbdmdjepgpjaaPl
import Derived.Test.YtojbdmdjepgpjaaChecked
import Derived.WalkKit
import Derived.WalkSpells
import Derived.WalkLawsBesides
import Derived.Lib.Hide
namespace Go.Proofs.Ytojbdmdjepgpjaa
open Go.RowKit

set_option maxRecDepth 100000 in
set_option maxHeartbeats 1000000 in
theorem smallest_any (v : Value) (l : List Int) (w : World) (hl : RowsAt w v 1 (fun n => [iv n]) l) (hs : ∀ y ∈ l, l.headD 0 ≤ y) :
    Calls Try.prog 59 #[v] w fun e w' => e = .returned (.int .i64 (l.headD 0)) ∧ w = w' := by
  obtain ⟨hlen, A, cap, hv, hcap, hmax⟩ := hl.form
  subst hv
  clear hcap hmax
  cases l with
  | nil =>
    go_enter Try.func59, Try.ntmps59
    go_wp2
    go_ret
    exact ⟨rfl, rfl⟩
  | cons x l =>
    obtain ⟨b, off, rfl, hb, hc⟩ := hl.at rfl (i := 0) (x := x) rfl
    have q0 : w.cell? ⟨b, off, none⟩ = some (.int .i64 x) := by simpa using hc 0 _ rfl
    have hne : (((x :: l).length : Int) == 0) = false := by simp; omega
    clear hc
    go_enter Try.func59, Try.ntmps59
    go_wp2
    clear q0 hne
    go_loopw [3, 14] (fun s i wr => ∃ k : Nat, k ≤ (x :: l).length ∧ i = .int .i64 k ∧ s = .int .i64 x ∧ w = wr) (fun _ i _ => (x :: l).length - (intOf i).toNat)
    case atStart => exact ⟨0, by omega, rfl, rfl, rfl⟩
    case round =>
      obtain ⟨k, hk, rfl, rfl, rfl⟩ := hrel
      by_cases hlt : k < l.length + 1
      · obtain ⟨y, hy⟩ : ∃ y, (x :: l)[k]? = some y := ⟨_, List.getElem?_eq_getElem (by simpa using hlt)⟩
        obtain ⟨b', off', e, hb, hc⟩ := hl.at rfl hy
        simp only [Option.some.injEq, Addr.mk.injEq, and_true] at e
        obtain ⟨rfl, rfl⟩ := e
        have q0 : w.cell? ⟨b, off + k, none⟩ = some (.int .i64 y) := by simpa using hc 0 _ rfl
        have hxy : x ≤ y := by simpa using hs y (List.mem_of_getElem? hy)
        clear hc hy hs
        go_wp2
        go_roundw
        case rel => exact ⟨k + 1, by simp; omega, by go_num, by go_num, trivial⟩
        case measure => simp [intOf]; omega
      · have hlt' : ¬ ((k : Int) < (l.length : Int) + 1) := by omega
        go_wp2
        go_ret
        exact ⟨rfl, rfl⟩

end Go.Proofs.Ytojbdmdjepgpjaa
