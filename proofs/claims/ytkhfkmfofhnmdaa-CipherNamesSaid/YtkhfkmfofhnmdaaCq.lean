/-
  WALKS of '(desk).taken', '(desk).isFree', '(desk).exposed', Exposed. Conditions: lists have at most 1000 elements.
-/
import Derived.Test.YtkhfkmfofhnmdaaCo
namespace Go.Proofs.Ytkhfkmfofhnmdaa
open Go.RowKit

/-- The days from which on others have the key. -/
def takenL (key : Int) (ls : List Ls) : List Int := (ls.filter fun x => x.k == key).map fun x => x.d
/-- The first of them, or the number of the days. -/
def takenI (n : Nat) (ls : List Ls) (key : Int) : Int := leastI n (takenL key ls)
theorem takenL_yes {key : Int} {ls : List Ls} {k : Nat} {x : Ls} (hx : ls[k]? = some x) (h : (x.k == key) = true) : takenL key (ls.take (k + 1)) = takenL key (ls.take k) ++ [x.d] := by
  unfold takenL
  rw [List.take_add_one, hx, List.filter_append, List.map_append]
  simp [h]
theorem takenL_no {key : Int} {ls : List Ls} {k : Nat} {x : Ls} (hx : ls[k]? = some x) (h : (x.k == key) = false) : takenL key (ls.take (k + 1)) = takenL key (ls.take k) := by
  unfold takenL
  rw [List.take_add_one, hx, List.filter_append, List.map_append]
  simp [h]
theorem takenL_len (key : Int) (ls : List Ls) : (takenL key ls).length ≤ ls.length := by
  unfold takenL
  rw [List.length_map]
  exact List.length_filter_le _ _

set_option maxRecDepth 100000 in
set_option maxHeartbeats 1500000 in
theorem taken_any (n ws : Int) (v1 : Value) (A2 : Option Addr) (n2 c2 : Nat) (v3 : Value) (ls : List Ls) (key : Int) (w : World) (hl : RowsAt w v3 2 Ls.cells ls) :
    Calls Try.prog 100 #[.agg #[iv n, iv ws, v1, .slice A2 n2 c2, v3], iv key] w fun e w' => e = .returned (.int .i64 (takenI n2 ls key)) ∧ Below w.heap.size w w' := by
  obtain ⟨i0, hi0, hz0, hz1, hz2⟩ := info_parts int_info
  obtain ⟨hlen, A3, c3, rfl, hcap, _⟩ := hl.form
  have HV := Lib.hid hl
  clear hl
  go_enter Try.func100, Try.ntmps100
  go_wp2_with fail
  have B2 := Box.new (w := w) (t := 98) (cs := #[iv n, iv ws, v1, .slice A2 n2 c2, .slice A3 ls.length c3]) rfl
  have hB : Below w.heap.size w (w.alloc (.cells #[iv n, iv ws, v1, .slice A2 n2 c2, .slice A3 ls.length c3] 98)) := up_alloc up0 _
  go_loopw [5, 11] (fun v i wr => ∃ k : Nat, k ≤ ls.length ∧ i = .int .i64 k ∧ Below w.heap.size w wr ∧ Box wr w.heap.size 98 #[iv n, iv ws, v1, .slice A2 n2 c2, .slice A3 ls.length c3] ∧
    Hid (wr.ownsRow w.heap.size 3 1 v (takenL key (ls.take k)).length ((takenL key (ls.take k)).map iv))) (fun _ i _ => ls.length - (intOf i).toNat)
  case atStart => exact ⟨0, by omega, rfl, hB, B2, World.ownsRow_nil _ _ _ _⟩
  case round =>
    rename_i v _ _
    clear hB B2
    obtain ⟨k, hk, rfl, hB, B2, HO⟩ := hrel
    have HO := Lib.hid HO.out
    obtain ⟨Av, mv, pv, rfl⟩ := own_form HO.out
    by_cases hlt : k < ls.length
    · obtain ⟨x, hx⟩ : ∃ x, ls[k]? = some x := ⟨_, List.getElem?_eq_getElem hlt⟩
      obtain ⟨b, off, rfl, hb, hc⟩ := (HV.out.kept hB).at rfl hx
      have q0 : wr.cell? ⟨b, off + k * 2, none⟩ = some (.int .i64 x.k) := hc 0 _ rfl
      have q1 : wr.cell? ⟨b, off + k * 2 + 1, none⟩ = some (.int .i64 x.d) := hc 1 _ rfl
      have HX := Lib.hid hx
      clear hc hx
      cases hp : (x.k == key) with
      | true =>
        have HP := Lib.hid hp
        have hlt2 := takenL_len key (ls.take k)
        have hsz := hB.size
        rw [List.length_take] at hlt2
        go_wp2_with (at_builtin; go_loud (refine wpList_append_own_at _ rfl (.tmp 19) (.tmp 22) 23 rfl w.heap.size 3 i0 _ 1 8 Try.underlying23 hi0 hz0 hz1 hz2 rfl (by decide) _ _ _ rfl ((HO.out.alloc _).alloc _) ⟨wr.heap.size + 1, 0, none⟩ 1 1 [iv x.d] rfl rfl (by have := cell_one_new (wr.alloc (.cells #[iv x.k, iv x.d] 109)) (iv x.d) 3; simpa using this) (by simp [Value.oneCell']) (by unfold maxLen; omega) (by omega) (by simp; omega) ?_); intro v' w3 hown' hgrow _ _)
        go_roundw
        case rel =>
          refine ⟨k + 1, by omega, by go_num, ((up_alloc (up_alloc hB _) _).grown hgrow (up_alloc (up_alloc hB _) _).size fun k hk => (HO.out.lt k hk).1), ((B2.alloc _).alloc _).grown hgrow (box_not_own B2 (by decide) HO.out), ?_⟩
          rw [takenL_yes HX.out HP.out, List.length_append, List.map_append]
          exact hown'
        case measure => simp [intOf]; omega
      | false =>
        have HP := Lib.hid hp
        go_wp2_with fail
        go_roundw
        case rel => exact ⟨k + 1, by omega, by go_num, up_alloc hB _, B2.alloc _, by rw [takenL_no HX.out HP.out]; exact HO.out.alloc _⟩
        case measure => simp [intOf]; omega
    · have c2 := fun i => B2.cell i
      have hlt2 := takenL_len key (ls.take k)
      rw [List.length_take] at hlt2
      have hi := ints_of_own HO.out rfl (by omega)
      have HI := Lib.hid hi
      have e : ls.take k = ls := List.take_of_length_le (by omega)
      have HE := Lib.hid e
      clear hi e
      go_wp2_with fail
      refine (least_any n2 _ _ wr HI.out).mono ?_
      rintro e w1 ⟨rfl, hb⟩
      go_wp2_with fail
      go_ret
      exact ⟨by rw [HE.out]; rfl, up_later hB hb⟩

end Go.Proofs.Ytkhfkmfofhnmdaa
