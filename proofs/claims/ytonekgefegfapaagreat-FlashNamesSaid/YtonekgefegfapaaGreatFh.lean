/-
  WALK of least. No condition but that of its premise.
-/
import Derived.Test.YtonekgefegfapaaGreatFg
import Derived.Test.YtonekgefegfapaaGreatFo
namespace Go.Proofs.YtonekgefegfapaaGreat
open Go.RowKit Go.Shelf

def ic (n : Int) : List Value := [iv n]
/-- A list of numbers that came in or was made. -/
abbrev IntsAt (w : World) (v : Value) (l : List Int) : Prop := RowsAt w v 1 ic l
def leastI (n : Int) (l : List Int) : Int := l.foldl min n
theorem foldl_take {n : Int} {l : List Int} {k : Nat} {x : Int} (hx : l[k]? = some x) : leastI n (l.take (k + 1)) = min (leastI n (l.take k)) x := by
  unfold leastI
  rw [List.take_add_one, hx]
  simp

set_option maxRecDepth 100000 in
set_option maxHeartbeats 1000000 in
theorem least_any (n : Int) (v : Value) (l : List Int) (w : World) (hl : IntsAt w v l) :
    Calls Tryz.prog 82 #[iv n, v] w fun r w' => r = .returned (.int .i64 (leastI n l)) ∧ Below w.heap.size w w' := by
  obtain ⟨hlen, A, cap, hv, hcap, hmax⟩ := hl.form
  subst hv
  clear hcap hmax
  go_enter Tryz.func82, Tryz.ntmps82
  go_wp2
  go_loopw [0, 9] (fun m i wr => ∃ k : Nat, k ≤ l.length ∧ i = .int .i64 k ∧ m = .int .i64 (leastI n (l.take k)) ∧ Below w.heap.size w wr) (fun _ i _ => l.length - (intOf i).toNat)
  case atStart => exact ⟨0, by omega, rfl, rfl, Below.refl _ _⟩
  case round =>
    obtain ⟨k, hk, rfl, rfl, hB⟩ := hrel
    by_cases hlt : k < l.length
    · obtain ⟨x, hx⟩ : ∃ x, l[k]? = some x := ⟨_, List.getElem?_eq_getElem hlt⟩
      obtain ⟨b, off, rfl, hb, hc⟩ := (hl.kept hB).at rfl hx
      have Hx := Lib.hid hx
      clear hx
      have q0 : wr.cell? ⟨b, off + k, none⟩ = some (.int .i64 x) := by simpa using hc 0 _ rfl
      clear hc
      go_wp2
      go_roundw
      case rel => exact ⟨k + 1, by omega, by go_num, by rw [foldl_take Hx.out] <;> (try (congr 1; split <;> omega)), hB⟩
      case measure => simp [intOf]; omega
    · go_wp2
      go_ret
      exact ⟨by rw [List.take_of_length_le (by omega)]; rfl, hB⟩


/-- One number in a slice that a call makes. -/
theorem ints_one {w : World} {g : Nat} {x : Int} (h : Box w g 3 #[iv x]) : IntsAt w (.slice (some ⟨g, 0, none⟩) 1 1) [x] :=
  ⟨by simp, _, _, rfl, by simp, by decide, fun _ => ⟨g, 0, rfl, h.lt, fun i y hy j u hu => by
    rw [h.cell]
    rcases i with _ | i
    · obtain rfl : y = x := by simpa using hy.symm
      rcases j with _ | j
      · obtain rfl : u = iv y := by simpa [ic] using hu.symm
        rfl
      · simp [ic] at hu
    · simp at hy⟩⟩
theorem lines_err {w : World} {g k : Nat} {s r : ByteArray} (h : Box w g 137 (linesC s r)) (hk : k < 6) : w.cell? ⟨g, 2 + k * 4 + 3, none⟩ = some (iv (errsN k)) := by
  rw [h.cell]
  rcases k with _ | _ | _ | _ | _ | _ | k <;> first | rfl | omega
end Go.Proofs.YtonekgefegfapaaGreat
