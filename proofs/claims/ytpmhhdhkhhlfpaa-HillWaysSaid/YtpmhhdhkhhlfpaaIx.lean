/-
  WALKS of slices.IndexFunc and slices.ContainsFunc over walls, asked whether a wall blocks a line. Conditions: places from 0 to 100, heights from 0 to 1000.
-/
import Derived.Test.YtpmhhdhkhhlfpaaLn
import Derived.Test.YtpmhhdhkhhlfpaaBk
namespace Go.Proofs.Ytpmhhdhkhhlfpaa
open Go.RowKit

def StOK (s : St) : Prop := (0 ≤ s.x ∧ s.x ≤ 100) ∧ (0 ≤ s.y ∧ s.y ≤ 100) ∧ (0 ≤ s.z ∧ s.z ≤ 1000)
def WlOK (x : Wl) : Prop := (0 ≤ x.x1 ∧ x.x1 ≤ 100) ∧ (0 ≤ x.y1 ∧ x.y1 ≤ 100) ∧ (0 ≤ x.x2 ∧ x.x2 ≤ 100) ∧ (0 ≤ x.y2 ∧ x.y2 ≤ 100) ∧ (0 ≤ x.b ∧ x.b ≤ 1000) ∧ (0 ≤ x.t ∧ x.t ≤ 1000)

theorem blocked_any (a b : St) (x : Wl) (ha : StOK a) (hb : StOK b) (hx : WlOK x) (w : World) :
    Calls Try.prog 65 #[.agg #[.int .i64 a.x, .int .i64 a.y, .int .i64 a.z, .int .i64 a.m, .int .i64 b.x, .int .i64 b.y, .int .i64 b.z, .int .i64 b.m], .agg #[.int .i64 x.x1, .int .i64 x.y1, .int .i64 x.x2, .int .i64 x.y2, .int .i64 x.b, .int .i64 x.t]] w fun e w' =>
      e = .returned (.bool (blocksW a b x)) ∧ Below w.heap.size w w' :=
  blockedBy_any a.x a.y a.z a.m b.x b.y b.z b.m x.x1 x.y1 x.x2 x.y2 x.b x.t w ha.1 ha.2.1 hb.1 hb.2.1 hx.1 hx.2.1 hx.2.2.1 hx.2.2.2.1 ha.2.2 hb.2.2 hx.2.2.2.2.1 hx.2.2.2.2.2

set_option maxRecDepth 100000 in
set_option maxHeartbeats 2000000 in
theorem IndexFunc_Wall_any (v : Value) (l : List Wl) (a b : St) (w : World) (hl : RowsAt w v 6 Wl.cells l) (ha : StOK a) (hb : StOK b) (hx : ∀ x ∈ l, WlOK x) :
    Calls Try.prog 88 #[v, .func (.func 65) #[.agg #[.int .i64 a.x, .int .i64 a.y, .int .i64 a.z, .int .i64 a.m, .int .i64 b.x, .int .i64 b.y, .int .i64 b.z, .int .i64 b.m]] #[]] w fun e w' =>
      ∃ i : Int, e = .returned (.int .i64 i) ∧ decide (0 ≤ i) = l.any (blocksW a b) ∧ -1 ≤ i ∧ i ≤ 1000 ∧ Below w.heap.size w w' := by
  obtain ⟨hlen, A, cap, hv, hcap, hmax⟩ := hl.form
  subst hv
  clear hcap hmax
  have Ha := Lib.hid ha
  have Hb := Lib.hid hb
  have HX := Lib.hid hx
  clear ha hb hx
  go_enter Try.func88, Try.ntmps88
  go_wp2
  go_loopw [8] (fun i wr => ∃ k : Nat, k ≤ l.length ∧ i = .int .i64 k ∧ Hid (((l.take k).all fun x => !blocksW a b x) = true) ∧ Below w.heap.size w wr) (fun i _ => l.length - (intOf i).toNat)
  case atStart => exact ⟨0, by omega, rfl, by simp [Hid], Below.refl _ _⟩
  case round =>
    obtain ⟨k, hk, rfl, hall, hB⟩ := hrel
    by_cases hlt : k < l.length
    · obtain ⟨x, hx⟩ : ∃ x, l[k]? = some x := ⟨_, List.getElem?_eq_getElem hlt⟩
      obtain ⟨bb, off, rfl, hbb, hc⟩ := (hl.kept hB).at rfl hx
      have hcall := fun w1 => blocked_any a b x Ha.out Hb.out (HX.out x (List.mem_of_getElem? hx)) w1
      have Hx := Lib.hid hx
      clear hx
      have q0 : wr.cell? ⟨bb, off + k * 6, none⟩ = some (.int .i64 x.x1) := hc 0 _ rfl
      have q1 : wr.cell? ⟨bb, off + k * 6 + 1, none⟩ = some (.int .i64 x.y1) := hc 1 _ rfl
      have q2 : wr.cell? ⟨bb, off + k * 6 + 2, none⟩ = some (.int .i64 x.x2) := hc 2 _ rfl
      have q3 : wr.cell? ⟨bb, off + k * 6 + 3, none⟩ = some (.int .i64 x.y2) := hc 3 _ rfl
      have q4 : wr.cell? ⟨bb, off + k * 6 + 4, none⟩ = some (.int .i64 x.b) := hc 4 _ rfl
      have q5 : wr.cell? ⟨bb, off + k * 6 + 5, none⟩ = some (.int .i64 x.t) := hc 5 _ rfl
      clear hc
      cases hp : blocksW a b x with
      | true =>
        have Hp := Lib.hid hp
        rw [hp] at hcall
        clear hp
        have Hf := Lib.hid hcall
        clear hcall
        go_wp2_with fail
        refine (Hf.out _).mono ?_
        rintro e w1 ⟨rfl, hb1⟩
        go_wp2
        go_ret
        exact ⟨_, rfl, by simp; exact ⟨x, List.mem_of_getElem? Hx.out, Hp.out⟩, by omega, by omega, up_later hB hb1⟩
      | false =>
        have Hp := Lib.hid hp
        rw [hp] at hcall
        clear hp
        have Hf := Lib.hid hcall
        clear hcall
        go_wp2_with fail
        refine (Hf.out _).mono ?_
        rintro e w1 ⟨rfl, hb1⟩
        go_wp2
        go_roundw
        case rel => exact ⟨k + 1, by omega, by go_num, all_take_succ Hx.out hall.out (by rw [Hp.out]; rfl), up_later hB hb1⟩
        case measure => simp [intOf]; omega
    · go_wp2
      go_ret
      exact ⟨-1, rfl, by have h := hall.out; rw [List.take_of_length_le (by omega)] at h; simp at h ⊢; exact fun a ha => h a ha, by omega, by omega, hB⟩

set_option maxHeartbeats 1000000 in
theorem ContainsFunc_Wall_any (v : Value) (l : List Wl) (a b : St) (w : World) (hl : RowsAt w v 6 Wl.cells l) (ha : StOK a) (hb : StOK b) (hx : ∀ x ∈ l, WlOK x) :
    Calls Try.prog 63 #[v, .func (.func 65) #[.agg #[.int .i64 a.x, .int .i64 a.y, .int .i64 a.z, .int .i64 a.m, .int .i64 b.x, .int .i64 b.y, .int .i64 b.z, .int .i64 b.m]] #[]] w fun e w' => e = .returned (.bool (l.any (blocksW a b))) ∧ Below w.heap.size w w' := by
  have H := Lib.hid (IndexFunc_Wall_any v l a b w hl ha hb hx)
  obtain ⟨_, A, cap, rfl, _, _⟩ := hl.form
  go_enter Try.func63, Try.ntmps63
  go_wp2_with (go_at_call 88; refine H.out.mono ?_; rintro e w1 ⟨i, rfl, hi, hi1, hi2, hb1⟩; have Hi := Lib.hid hi; clear hi)
  go_ret
  exact ⟨ret_bool Hi.out, hb1⟩

end Go.Proofs.Ytpmhhdhkhhlfpaa
