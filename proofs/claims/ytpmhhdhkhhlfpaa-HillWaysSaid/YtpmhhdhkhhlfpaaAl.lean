/-
  THE ITERATOR slices.All over walls: its rounds get each index and wall, in order. Conditions: the list has at most 1000 elements.
-/
import Derived.RangeFuncNested
import Derived.RangeFuncBound
import Derived.RangeFuncCalls
import Derived.RangeFuncLeaves
import Derived.RangeFuncBox
import Derived.Shelf.Abstract
import Derived.Shelf.RegionOpen
import Derived.WalkKit
import Derived.OwnWalkIn
import Derived.TacticsInMore
import Derived.LoopNIn
import Derived.LoopIn
import Derived.Maps.AppendAt
import Derived.Test.YtpmhhdhkhhlfpaaRw
import Derived.Test.YtpmhhdhkhhlfpaaChecked
import Derived.Lib.Hide
namespace Go.Proofs.Ytpmhhdhkhhlfpaa
open Go.RowKit Go.Shelf
attribute [local go_sem] Oper.semAt_some

def wlV (x : Wl) : Value := .agg #[.int .i64 x.x1, .int .i64 x.y1, .int .i64 x.x2, .int .i64 x.y2, .int .i64 x.b, .int .i64 x.t]
def wlEnc (x : Nat × Wl) : Array Value := #[.int .i64 (x.1 : Int), wlV x.2]
/-- The wall at an index; beyond the list, a wall of noughts. -/
def wAt (zs : List Wl) (i : Nat) : Wl := zs[i]?.getD ⟨0, 0, 0, 0, 0, 0⟩
theorem wAt_eq {zs : List Wl} {k : Nat} {x : Wl} (hx : zs[k]? = some x) : wAt zs k = x := by simp [wAt, hx]

set_option maxRecDepth 100000 in
set_option maxHeartbeats 2000000 in
theorem All1_in (F : Fence) (n : Nat) (h8 : F.fn 100) (hro : F.round = none) (hn : 1 ≤ n) (l Bs B : Nat) (w0 : World) (sv : Value) (zs : List Wl) (J Jx : List Nat → World → Prop) (hJ : AbidesFrom B J)
    (hY : ∀ pre x W, J pre W → pre.length < zs.length → YieldAt F (n - 1) Try.prog l (wlEnc (x, wAt zs x)) W fun e W' =>
      (e = .returned (.bool true) ∧ J (pre ++ [x]) W' ∧ Below w0.heap.size W W') ∨ (e = .returned (.bool false) ∧ Jx (pre ++ [x]) W'))
    (W : World) (hW0 : Below w0.heap.size w0 W) (hBs : W.cell? ⟨Bs, 0, none⟩ = some sv) (hR : RowsAt w0 sv 6 Wl.cells zs) (h0 : J [] W) :
    CallsIn F n Try.prog 100 #[.func (.yield l) #[] #[], .pointer (some ⟨Bs, 0, none⟩)] W fun e W' => (∃ v, e = .returned v) ∧
      ((∃ ys, ys = List.range zs.length ∧ J ys W') ∨ (∃ pre, (∃ k, k ≤ zs.length ∧ pre = List.range k) ∧ Jx pre W')) := by
  obtain ⟨hlen, A, cap, rfl, hcap, hmax⟩ := hR.form
  refine callsIn_of_wp Try.func100 rfl h8 ?_ hro
  simp only [Try.ntmps100, List.size_toArray, List.length_cons, List.length_nil, Nat.reduceAdd, Nat.reduceSub, Array.replicate_succ, Array.replicate_zero, List.push_toArray, List.append_toArray, List.nil_append, List.cons_append]
  gi_wp2
  gi_loopw [7] (fun i wr => ∃ k : Nat, k ≤ zs.length ∧ i = .int .i64 k ∧ J (List.range k) wr ∧ Below w0.heap.size w0 wr) (fun i _ => zs.length - (intOf i).toNat)
  case atStart => exact ⟨0, Nat.zero_le _, rfl, h0, hW0⟩
  case round =>
    obtain ⟨k, hk, rfl, hJs, hnx⟩ := hrel
    by_cases hlt : k < zs.length
    · obtain ⟨x, hx⟩ : ∃ x, zs[k]? = some x := ⟨_, List.getElem?_eq_getElem hlt⟩
      obtain ⟨b, off, rfl, hb, hc⟩ := (hR.kept hnx).at rfl hx
      obtain ⟨fn, tmps, assign, body, hy, hround⟩ := hY (List.range k) k (wr.alloc (.cells #[iv x.x1, iv x.y1, iv x.x2, iv x.y2, iv x.b, iv x.t] 68)) (hJ _ _ _ none hJs (World.grownBy_alloc _ _ _) (by simp)) (by rw [List.length_range]; exact hlt)
      rw [wAt_eq hx] at hy
      dsimp only [wlEnc, wlV] at hy
      have Hx := Lib.hid hx
      have Hr := Lib.hid hround
      clear hx hround hY hJ
      have q0 : wr.cell? ⟨b, off + k * 6, none⟩ = some (.int .i64 x.x1) := hc 0 _ rfl
      have q1 : wr.cell? ⟨b, off + k * 6 + 1, none⟩ = some (.int .i64 x.y1) := hc 1 _ rfl
      have q2 : wr.cell? ⟨b, off + k * 6 + 2, none⟩ = some (.int .i64 x.x2) := hc 2 _ rfl
      have q3 : wr.cell? ⟨b, off + k * 6 + 3, none⟩ = some (.int .i64 x.y2) := hc 3 _ rfl
      have q4 : wr.cell? ⟨b, off + k * 6 + 4, none⟩ = some (.int .i64 x.b) := hc 4 _ rfl
      have q5 : wr.cell? ⟨b, off + k * 6 + 5, none⟩ = some (.int .i64 x.t) := hc 5 _ rfl
      clear hc
      gi_wp2
      refine Hr.out.mono ?_
      rintro e W3 (⟨rfl, hJ3, hk3⟩ | ⟨rfl, hJx3⟩)
      · gi_wp2
        go_roundw
        case rel => exact ⟨k + 1, by omega, by simp, by rw [List.range_succ]; exact hJ3, (hnx.alloc hnx.size _).trans hk3⟩
        case measure => simp [intOf]; omega
      · gi_wp2
        refine bodyPost_ret (results_none rfl _ _ _) rfl ?_
        exact ⟨⟨_, rfl⟩, .inr ⟨_, ⟨k + 1, by omega, List.range_succ.symm⟩, hJx3⟩⟩
    · obtain rfl : k = zs.length := by omega
      gi_wp2
      go_end0
      exact ⟨⟨_, rfl⟩, .inl ⟨_, rfl, hJs⟩⟩

/-- **slices.All's value**: each index and wall, in order; or a part of them, where a round has said 'no more'. -/
theorem All_stops (F : Fence) (n : Nat) (h8 : F.fn 100) (hro : F.round = none) (hn : 1 ≤ n) (Bs : Nat) (sv : Value) (zs : List Wl) (w : World) (hBs : w.cell? ⟨Bs, 0, none⟩ = some sv) (hlt : Bs < w.heap.size) (hR : RowsAt w sv 6 Wl.cells zs) :
    SeqStopsK F n Try.prog 100 #[.pointer (some ⟨Bs, 0, none⟩)] (fun x => wlEnc (x, wAt zs x)) (Below w.heap.size) (fun ys => ys = List.range zs.length) (fun pre => ∃ k, k ≤ zs.length ∧ pre = List.range k) zs.length w := fun l J Jx W hW hJ _ hY h0 =>
  All1_in F n h8 hro hn l Bs W.heap.size w sv zs J Jx hJ hY W hW ((hW.cell (p := ⟨Bs, 0, none⟩) hlt).trans hBs) hR h0

end Go.Proofs.Ytpmhhdhkhhlfpaa
