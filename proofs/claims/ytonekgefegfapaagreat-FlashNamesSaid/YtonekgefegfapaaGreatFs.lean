/-
  WALKS of hasLetter, added, and 'every' of letters. Conditions: at most 1000 letters; a letter of the code.
-/
import Derived.Test.YtonekgefegfapaaGreatFr
namespace Go.Proofs.YtonekgefegfapaaGreat
open Go.RowKit

/-- A number is a letter of a code of so many. -/
def letB (n : Nat) (x : Int) : Bool := decide (0 ≤ x) && decide (x < (n : Int))
set_option maxHeartbeats 400000 in
theorem hasLetter_any (v : Value) (l : List ByteArray) (x : Int) (w : World) (hl : RowsAt w v 1 sc l) : Calls Tryz.prog 54 #[.agg #[v], .int .i64 x] w fun e w' => e = .returned (.bool (letB l.length x)) ∧ Below w.heap.size w w' := by
  obtain ⟨hlen, A, cap, hv, -, -⟩ := hl.form
  subst hv
  clear hl
  by_cases h0 : (0 : Int) ≤ x
  · have Hr := Lib.hid (show decide (x < (l.length : Int)) = letB l.length x by unfold letB; rw [decide_eq_true h0, Bool.true_and])
    go_enter Tryz.func54, Tryz.ntmps54
    have B1 := Box.new (w := w) (t := 30) (cs := #[.slice A l.length cap]) rfl
    have c1 := fun i => B1.cell i
    go_wp2_with fail
    go_ret
    exact ⟨ret_bool Hr.out, up_alloc up0 _⟩
  · have Hr := Lib.hid (show false = letB l.length x by unfold letB; rw [decide_eq_false h0, Bool.false_and])
    go_enter Tryz.func54, Tryz.ntmps54
    have B1 := Box.new (w := w) (t := 30) (cs := #[.slice A l.length cap]) rfl
    have c1 := fun i => B1.cell i
    go_wp2_with fail
    go_ret
    exact ⟨ret_bool Hr.out, up_alloc up0 _⟩
set_option maxRecDepth 100000 in
set_option maxHeartbeats 1000000 in
theorem every_letter (v : Value) (l : List Int) (c : Value) (p : Int → Bool) (w : World) (hl : RowsAt w v 1 ic l)
    (hf : ∀ x ∈ l, ∀ w1, Below w.heap.size w w1 → Calls Tryz.prog 54 #[c, .int .i64 x] w1 fun e w2 => e = .returned (.bool (p x)) ∧ Below w1.heap.size w1 w2) :
    Calls Tryz.prog 53 #[v, .func (.func 54) #[c] #[]] w fun e w' => e = .returned (.bool (l.all p)) ∧ Below w.heap.size w w' := by
  obtain ⟨hlen, A, cap, hv, hcap, hmax⟩ := hl.form
  subst hv
  clear hcap hmax
  go_enter Tryz.func53, Tryz.ntmps53
  go_wp2
  go_loopw [9] (fun i wr => ∃ k : Nat, k ≤ l.length ∧ i = .int .i64 k ∧ Hid ((l.take k).all p = true) ∧ Below w.heap.size w wr) (fun i _ => l.length - (intOf i).toNat)
  case atStart => exact ⟨0, by omega, rfl, by simp [Hid], Below.refl _ _⟩
  case round =>
    obtain ⟨k, hk, rfl, hall, hB⟩ := hrel
    by_cases hlt : k < l.length
    · obtain ⟨x, hx⟩ : ∃ x, l[k]? = some x := ⟨_, List.getElem?_eq_getElem hlt⟩
      obtain ⟨b, off, rfl, hb, hc⟩ := (hl.kept hB).at rfl hx
      have hcall := hf x (List.mem_of_getElem? hx)
      have Hx := Lib.hid hx
      clear hx
      have q0 : wr.cell? ⟨b, off + k, none⟩ = some (.int .i64 x) := by simpa using hc 0 _ rfl
      clear hc
      cases hp : p x with
      | true =>
        have Hp := Lib.hid hp
        rw [hp] at hcall
        clear hp
        have Hf := Lib.hid hcall
        clear hcall hf
        go_wp2_with fail
        refine (Hf.out _ hB).mono ?_
        rintro e w1 ⟨rfl, hb1⟩
        go_wp2
        go_roundw
        case rel => exact ⟨k + 1, by omega, by go_num, all_take_succ Hx.out hall.out Hp.out, up_later hB hb1⟩
        case measure => simp [intOf]; omega
      | false =>
        have Hp := Lib.hid hp
        rw [hp] at hcall
        clear hp
        have Hf := Lib.hid hcall
        clear hcall hf
        go_wp2_with fail
        refine (Hf.out _ hB).mono ?_
        rintro e w1 ⟨rfl, hb1⟩
        go_wp2
        go_ret
        exact ⟨ret_bool (all_false Hx.out Hp.out).symm, up_later hB hb1⟩
    · go_wp2
      go_ret
      exact ⟨ret_bool (by have h := hall.out; rw [List.take_of_length_le (by omega)] at h; exact h.symm), hB⟩
/-- What a letter adds to a text. -/
def addS (l : List ByteArray) (x : Nat) (first : Bool) : ByteArray := if first then l.getD x ⟨#[]⟩ else ⟨#[32]⟩ ++ l.getD x ⟨#[]⟩
set_option maxHeartbeats 400000 in
theorem added_any (v : Value) (l : List ByteArray) (x : Nat) (first : Bool) (w : World) (hl : RowsAt w v 1 sc l) (hx : x < l.length) (h4 : ∀ s ∈ l, s.size ≤ 4) : Calls Tryz.prog 78 #[.agg #[v], .int .i64 x, .bool first] w fun e w' => e = .returned (.string (addS l x first)) ∧ Below w.heap.size w w' := by
  obtain ⟨hlen, A, cap, hv, -, -⟩ := hl.form
  subst hv
  obtain ⟨y, hy⟩ : ∃ y, l[x]? = some y := ⟨_, List.getElem?_eq_getElem hx⟩
  have hy4 : ¬ 9223372036854775807 < 1 + y.size := by
    have := h4 y (List.mem_of_getElem? hy)
    omega
  have Hy := Lib.hid (show l.getD x ⟨#[]⟩ = y by rw [List.getD_eq_getElem?_getD, hy]; rfl)
  obtain ⟨b, off, rfl, hb, hc⟩ := (hl.kept (w' := w.alloc (.cells #[.slice A l.length cap] 30)) (up_alloc up0 _)).at rfl hy
  have q0 : (w.alloc (.cells #[.slice (some ⟨b, off, none⟩) l.length cap] 30)).cell? ⟨b, off + x, none⟩ = some (.string y) := by simpa using hc 0 _ rfl
  have x0 : (0 : Int) ≤ (x : Int) := by omega
  have x1 : (x : Int) < (l.length : Int) := by omega
  clear hc hl hy
  cases first with
  | true =>
    have Hr := Lib.hid (show y = addS l x true by unfold addS; rw [if_pos rfl, Hy.out])
    go_enter Tryz.func78, Tryz.ntmps78
    have B1 := Box.new (w := w) (t := 30) (cs := #[.slice (some ⟨b, off, none⟩) l.length cap]) rfl
    have c1 := fun i => B1.cell i
    go_wp2_with fail
    go_ret
    exact ⟨by rw [← Hr.out]; rfl, up_alloc up0 _⟩
  | false =>
    have Hr := Lib.hid (show ⟨#[32]⟩ ++ y = addS l x false by unfold addS; rw [if_neg (by simp), Hy.out])
    go_enter Tryz.func78, Tryz.ntmps78
    have B1 := Box.new (w := w) (t := 30) (cs := #[.slice (some ⟨b, off, none⟩) l.length cap]) rfl
    have c1 := fun i => B1.cell i
    go_wp2_with fail
    go_ret
    exact ⟨by rw [← Hr.out]; rfl, up_alloc up0 _⟩
end Go.Proofs.YtonekgefegfapaaGreat
