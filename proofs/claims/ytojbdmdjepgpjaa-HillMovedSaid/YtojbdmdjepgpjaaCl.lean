/-
  THE ITERATOR slices.All over walls: its rounds get each index and wall, in order. Conditions: the list has at most 1000 elements.
  THE ITERATOR of cloudsAt: its rounds get the index and the wall of each cloud of the case that is there at the hour, in order. Conditions: the case has at most 1000 clouds.
-/
import Derived.RangeFuncNested
import Derived.RangeFuncBound
import Derived.RangeFuncCalls
import Derived.RangeFuncLeaves
import Derived.RangeFuncBox
import Derived.Shelf.Abstract
import Derived.Shelf.RegionOpen
import Derived.WalkKit
import Derived.OwnWalkIn
import Derived.TacticsInMore
import Derived.LoopNIn
import Derived.LoopIn
import Derived.Maps.AppendAt
import Derived.Test.YtojbdmdjepgpjaaPl
import Derived.Test.YtojbdmdjepgpjaaChecked
import Derived.Lib.Hide
import Derived.Test.YtojbdmdjepgpjaaOp
namespace Go.Proofs.Ytojbdmdjepgpjaa
open Go.RowKit Go.Shelf
attribute [local go_sem] Oper.semAt_some

def wlV (x : Wl) : Value := .agg #[.int .i64 x.x1, .int .i64 x.y1, .int .i64 x.x2, .int .i64 x.y2, .int .i64 x.b, .int .i64 x.t]
def wlEnc (x : Nat × Wl) : Array Value := #[.int .i64 (x.1 : Int), wlV x.2]
/-- The wall at an index; beyond the list, a wall of noughts. -/
def wAt (zs : List Wl) (i : Nat) : Wl := zs[i]?.getD ⟨0, 0, 0, 0, 0, 0⟩
theorem wAt_eq {zs : List Wl} {k : Nat} {x : Wl} (hx : zs[k]? = some x) : wAt zs k = x := by simp [wAt, hx]

set_option maxRecDepth 100000 in
set_option maxHeartbeats 2000000 in
theorem All1_in (F : Fence) (n : Nat) (h8 : F.fn 100) (hro : F.round = none) (hn : 1 ≤ n) (l Bs B : Nat) (w0 : World) (sv : Value) (zs : List Wl) (J Jx : List Nat → World → Prop) (hJ : AbidesFrom B J)
    (hY : ∀ pre x W, J pre W → pre.length < zs.length → YieldAt F (n - 1) Try.prog l (wlEnc (x, wAt zs x)) W fun e W' =>
      (e = .returned (.bool true) ∧ J (pre ++ [x]) W' ∧ Below w0.heap.size W W') ∨ (e = .returned (.bool false) ∧ Jx (pre ++ [x]) W'))
    (W : World) (hW0 : Below w0.heap.size w0 W) (hBs : W.cell? ⟨Bs, 0, none⟩ = some sv) (hR : RowsAt w0 sv 6 Wl.cells zs) (h0 : J [] W) :
    CallsIn F n Try.prog 100 #[.func (.yield l) #[] #[], .pointer (some ⟨Bs, 0, none⟩)] W fun e W' => (∃ v, e = .returned v) ∧
      ((∃ ys, ys = List.range zs.length ∧ J ys W') ∨ (∃ pre, (∃ k, k ≤ zs.length ∧ pre = List.range k) ∧ Jx pre W')) := by
  obtain ⟨hlen, A, cap, rfl, hcap, hmax⟩ := hR.form
  refine callsIn_of_wp Try.func100 rfl h8 ?_ hro
  simp only [Try.ntmps100, List.size_toArray, List.length_cons, List.length_nil, Nat.reduceAdd, Nat.reduceSub, Array.replicate_succ, Array.replicate_zero, List.push_toArray, List.append_toArray, List.nil_append, List.cons_append]
  gi_wp2
  gi_loopw [7] (fun i wr => ∃ k : Nat, k ≤ zs.length ∧ i = .int .i64 k ∧ J (List.range k) wr ∧ Below w0.heap.size w0 wr) (fun i _ => zs.length - (intOf i).toNat)
  case atStart => exact ⟨0, Nat.zero_le _, rfl, h0, hW0⟩
  case round =>
    obtain ⟨k, hk, rfl, hJs, hnx⟩ := hrel
    by_cases hlt : k < zs.length
    · obtain ⟨x, hx⟩ : ∃ x, zs[k]? = some x := ⟨_, List.getElem?_eq_getElem hlt⟩
      obtain ⟨b, off, rfl, hb, hc⟩ := (hR.kept hnx).at rfl hx
      obtain ⟨fn, tmps, assign, body, hy, hround⟩ := hY (List.range k) k (wr.alloc (.cells #[iv x.x1, iv x.y1, iv x.x2, iv x.y2, iv x.b, iv x.t] 68)) (hJ _ _ _ none hJs (World.grownBy_alloc _ _ _) (by simp)) (by rw [List.length_range]; exact hlt)
      rw [wAt_eq hx] at hy
      dsimp only [wlEnc, wlV] at hy
      have Hx := Lib.hid hx
      have Hr := Lib.hid hround
      clear hx hround hY hJ
      have q0 : wr.cell? ⟨b, off + k * 6, none⟩ = some (.int .i64 x.x1) := hc 0 _ rfl
      have q1 : wr.cell? ⟨b, off + k * 6 + 1, none⟩ = some (.int .i64 x.y1) := hc 1 _ rfl
      have q2 : wr.cell? ⟨b, off + k * 6 + 2, none⟩ = some (.int .i64 x.x2) := hc 2 _ rfl
      have q3 : wr.cell? ⟨b, off + k * 6 + 3, none⟩ = some (.int .i64 x.y2) := hc 3 _ rfl
      have q4 : wr.cell? ⟨b, off + k * 6 + 4, none⟩ = some (.int .i64 x.b) := hc 4 _ rfl
      have q5 : wr.cell? ⟨b, off + k * 6 + 5, none⟩ = some (.int .i64 x.t) := hc 5 _ rfl
      clear hc
      gi_wp2
      refine Hr.out.mono ?_
      rintro e W3 (⟨rfl, hJ3, hk3⟩ | ⟨rfl, hJx3⟩)
      · gi_wp2
        go_roundw
        case rel => exact ⟨k + 1, by omega, by simp, by rw [List.range_succ]; exact hJ3, (hnx.alloc hnx.size _).trans hk3⟩
        case measure => simp [intOf]; omega
      · gi_wp2
        refine bodyPost_ret (results_none rfl _ _ _) rfl ?_
        exact ⟨⟨_, rfl⟩, .inr ⟨_, ⟨k + 1, by omega, List.range_succ.symm⟩, hJx3⟩⟩
    · obtain rfl : k = zs.length := by omega
      gi_wp2
      go_end0
      exact ⟨⟨_, rfl⟩, .inl ⟨_, rfl, hJs⟩⟩

/-- **slices.All's value**: each index and wall, in order; or a part of them, where a round has said 'no more'. -/
theorem All_stops (F : Fence) (n : Nat) (h8 : F.fn 100) (hro : F.round = none) (hn : 1 ≤ n) (Bs : Nat) (sv : Value) (zs : List Wl) (w : World) (hBs : w.cell? ⟨Bs, 0, none⟩ = some sv) (hlt : Bs < w.heap.size) (hR : RowsAt w sv 6 Wl.cells zs) :
    SeqStopsK F n Try.prog 100 #[.pointer (some ⟨Bs, 0, none⟩)] (fun x => wlEnc (x, wAt zs x)) (Below w.heap.size) (fun ys => ys = List.range zs.length) (fun pre => ∃ k, k ≤ zs.length ∧ pre = List.range k) zs.length w := fun l J Jx W hW hJ _ hY h0 =>
  All1_in F n h8 hro hn l Bs W.heap.size w sv zs J Jx hJ hY W hW ((hW.cell (p := ⟨Bs, 0, none⟩) hlt).trans hBs) hR h0

end Go.Proofs.Ytojbdmdjepgpjaa

namespace Go.Proofs.Ytojbdmdjepgpjaa
open Go.RowKit Go.Shelf
attribute [local go_sem] Oper.semAt_some

/-- The clouds that are there at the hour h, among the first k. -/
def hereB (h : Int) (zs : List Cl) (i : Nat) : Bool := (zs[i]?.map fun c => inB c.f c.t h).getD false
def uptoC (h : Int) (zs : List Cl) (k : Nat) : List Nat := (List.range k).filter (hereB h zs)
def clAt (zs : List Cl) (i : Nat) : Wl := (zs[i]?.map fun c => c.w).getD ⟨0, 0, 0, 0, 0, 0⟩
theorem clAt_eq {zs : List Cl} {k : Nat} {c : Cl} (hc : zs[k]? = some c) : clAt zs k = c.w := by simp [clAt, hc]
theorem uptoC_yes {h : Int} {zs : List Cl} {k : Nat} {c : Cl} (hc : zs[k]? = some c) (hi : inB c.f c.t h = true) : uptoC h zs (k + 1) = uptoC h zs k ++ [k] := by
  simp [uptoC, List.range_succ, List.filter_append, hereB, hc, hi]
theorem uptoC_no {h : Int} {zs : List Cl} {k : Nat} {c : Cl} (hc : zs[k]? = some c) (hi : inB c.f c.t h = false) : uptoC h zs (k + 1) = uptoC h zs k := by
  simp [uptoC, List.range_succ, List.filter_append, hereB, hc, hi]
theorem uptoC_length {h : Int} {zs : List Cl} {k : Nat} : (uptoC h zs k).length ≤ k := by
  have := List.length_filter_le (hereB h zs) (List.range k)
  rwa [List.length_range] at this

theorem grown_of_below {W W' : World} (h : Below W.heap.size W W') : W.grownBy W' none := ⟨h.os, h.tape, h.output, h.size, fun i hi _ => h.block i hi⟩

set_option maxRecDepth 100000 in
set_option maxHeartbeats 4000000 in
theorem cloudsAt1_in (n : Nat) (hn : 1 ≤ n) (l B1 B2 B3 B gs kase A3 cap3 off3 m : Nat) (hour : Int) (w0 : World) (sv : Value) (zs : List Cl) (J Jx : List Nat → World → Prop) (hJ : AbidesFrom B J)
    (hY : ∀ pre x W, J pre W → pre.length < zs.length → YieldAt Fence.wide (n - 1) Try.prog l (wlEnc (x, clAt zs x)) W fun e W' =>
      (e = .returned (.bool true) ∧ J (pre ++ [x]) W' ∧ Below w0.heap.size W W') ∨ (e = .returned (.bool false) ∧ Jx (pre ++ [x]) W'))
    (W : World) (hW0 : Below w0.heap.size w0 W) (b1 : W.cell? ⟨B1, 0, none⟩ = some (.pointer (some ⟨gs, 0, none⟩))) (b2 : W.cell? ⟨B2, 0, none⟩ = some (.int .i64 (kase : Int))) (b3 : W.cell? ⟨B3, 0, none⟩ = some (.int .i64 hour))
    (hb3 : B3 < w0.heap.size) (hgs : W.cell? ⟨gs, 2, none⟩ = some (.slice (some ⟨A3, off3, none⟩) m cap3)) (hkm : kase < m) (hcs : W.cell? ⟨A3, off3 + kase, none⟩ = some sv) (hR : RowsAt w0 sv 8 Cl.cells zs) (h0 : J [] W) :
    CallsIn Fence.wide n Try.prog 101 #[.func (.yield l) #[] #[], .pointer (some ⟨B1, 0, none⟩), .pointer (some ⟨B2, 0, none⟩), .pointer (some ⟨B3, 0, none⟩)] W fun e W' => (∃ v, e = .returned v) ∧
      ((∃ ys, ys = uptoC hour zs zs.length ∧ J ys W') ∨ (∃ pre, (∃ k, k ≤ zs.length ∧ pre = uptoC hour zs k) ∧ Jx pre W')) := by
  obtain ⟨hlen, A, cap, rfl, hcap, hmax⟩ := hR.form
  have k0 : (0 : Int) ≤ (kase : Int) := by omega
  have k1 : (kase : Int) < (m : Int) := by omega
  have hb30 : W.cell? ⟨B3, 0, none⟩ = some (.int .i64 hour) := b3
  have HJ := Lib.hid hJ
  have HY := Lib.hid hY
  clear hJ hY
  refine callsIn_of_wp Try.func101 rfl trivial ?_ rfl
  simp only [Try.ntmps101, List.size_toArray, List.length_cons, List.length_nil, Nat.reduceAdd, Nat.reduceSub, Array.replicate_succ, Array.replicate_zero, List.push_toArray, List.append_toArray, List.nil_append, List.cons_append]
  gi_wp2
  gi_region
  gi_wp2
  clear b1 b2 b3 hgs hcs
  gi_loopw [17] (fun i wr => ∃ k : Nat, k ≤ zs.length ∧ i = .int .i64 k ∧ J (uptoC hour zs k) wr ∧ Below w0.heap.size w0 wr) (fun i _ => zs.length - (intOf i).toNat)
  case atStart => exact ⟨0, Nat.zero_le _, rfl, HJ.out _ _ _ none h0 (grown_of_below (up_drew up0)) (by simp), hW0.drew⟩
  case round =>
    obtain ⟨k, hk, rfl, hJs, hnx⟩ := hrel
    have b3 : wr.cell? ⟨B3, 0, none⟩ = some (.int .i64 hour) := (hnx.cell (p := ⟨B3, 0, none⟩) hb3).trans ((hW0.cell (p := ⟨B3, 0, none⟩) hb3).symm.trans hb30)
    have b3l : B3 < wr.heap.size := Nat.lt_of_lt_of_le hb3 hnx.size
    by_cases hlt : k < zs.length
    · obtain ⟨c, hcx⟩ : ∃ c, zs[k]? = some c := ⟨_, List.getElem?_eq_getElem hlt⟩
      obtain ⟨b, off, rfl, hb, hc⟩ := (hR.kept hnx).at rfl hcx
      have Hc := Lib.hid hcx
      clear hcx
      have q0 : wr.cell? ⟨b, off + k * 8, none⟩ = some (.int .i64 c.w.x1) := hc 0 _ rfl
      have q1 : wr.cell? ⟨b, off + k * 8 + 1, none⟩ = some (.int .i64 c.w.y1) := hc 1 _ rfl
      have q2 : wr.cell? ⟨b, off + k * 8 + 2, none⟩ = some (.int .i64 c.w.x2) := hc 2 _ rfl
      have q3 : wr.cell? ⟨b, off + k * 8 + 3, none⟩ = some (.int .i64 c.w.y2) := hc 3 _ rfl
      have q4 : wr.cell? ⟨b, off + k * 8 + 4, none⟩ = some (.int .i64 c.w.b) := hc 4 _ rfl
      have q5 : wr.cell? ⟨b, off + k * 8 + 5, none⟩ = some (.int .i64 c.w.t) := hc 5 _ rfl
      have q6 : wr.cell? ⟨b, off + k * 8 + 6, none⟩ = some (.int .i64 c.f) := hc 6 _ rfl
      have q7 : wr.cell? ⟨b, off + k * 8 + 7, none⟩ = some (.int .i64 c.t) := hc 7 _ rfl
      clear hc
      have hlen2 := uptoC_length (h := hour) (zs := zs) (k := k)
      cases hin : inB c.f c.t hour with
      | true =>
        gi_wp2_with fail
        refine ⟨trivial, ?_⟩
        refine (callsIn_wide.2 (hasB_any _ _ _ _)).mono ?_
        rintro e w1 ⟨rfl, hb1⟩
        have hup : Below wr.heap.size wr w1 := up_later (up_alloc (up_alloc up0 _) _) hb1
        have hBx := Box.later hb1 ((Box.new (w := wr) (t := 70) (cs := #[iv c.w.x1, iv c.w.y1, iv c.w.x2, iv c.w.y2, iv c.w.b, iv c.w.t, iv c.f, iv c.t]) rfl).alloc _)
        have cB := fun i => hBx.cell i
        obtain ⟨fn, tmps, assign, body, hy, hround⟩ := HY.out (uptoC hour zs k) k w1 (HJ.out _ _ _ none hJs (grown_of_below hup) (by simp)) (by omega)
        rw [clAt_eq Hc.out] at hy
        dsimp only [wlEnc, wlV] at hy
        have Hr := Lib.hid hround
        have Hin := Lib.hid hin
        clear hround q0 q1 q2 q3 q4 q5 q6 q7
        gi_wp2
        refine Hr.out.mono ?_
        rintro e W3 (⟨rfl, hJ3, hk3⟩ | ⟨rfl, hJx3⟩)
        · gi_wp2
          go_roundw
          case rel => exact ⟨k + 1, by omega, by simp, by rw [uptoC_yes Hc.out Hin.out]; exact hJ3, (hnx.trans (hup.mono hnx.size)).trans hk3⟩
          case measure => simp [intOf]; omega
        · gi_wp2
          refine bodyPost_ret (results_none rfl _ _ _) rfl ?_
          exact ⟨⟨_, rfl⟩, .inr ⟨_, ⟨k + 1, by omega, (uptoC_yes Hc.out Hin.out).symm⟩, hJx3⟩⟩
      | false =>
        gi_wp2_with fail
        refine ⟨trivial, ?_⟩
        refine (callsIn_wide.2 (hasB_any _ _ _ _)).mono ?_
        rintro e w1 ⟨rfl, hb1⟩
        have hup : Below wr.heap.size wr w1 := up_later (up_alloc (up_alloc up0 _) _) hb1
        have Hin := Lib.hid hin
        clear q0 q1 q2 q3 q4 q5 q6 q7
        gi_wp2
        refine ⟨fun _ h => (by cases h), ?_⟩
        gi_wp2
        go_roundw
        case rel => exact ⟨k + 1, by omega, by simp, by rw [uptoC_no Hc.out Hin.out]; exact HJ.out _ _ _ none hJs (grown_of_below hup) (by simp), hnx.trans (hup.mono hnx.size)⟩
        case measure => simp [intOf]; omega
    · obtain rfl : k = zs.length := by omega
      gi_wp2
      go_end0
      exact ⟨⟨_, rfl⟩, .inl ⟨_, rfl, hJs⟩⟩

/-- **cloudsAt's value**: the index and the wall of each cloud that is there, in order; or a part of them, where a round has said 'no more'. -/
theorem cloudsAt_stops (n : Nat) (hn : 1 ≤ n) (B1 B2 B3 gs kase A3 cap3 off3 m : Nat) (hour : Int) (w : World) (sv : Value) (zs : List Cl)
    (b1 : w.cell? ⟨B1, 0, none⟩ = some (.pointer (some ⟨gs, 0, none⟩))) (b2 : w.cell? ⟨B2, 0, none⟩ = some (.int .i64 (kase : Int))) (b3 : w.cell? ⟨B3, 0, none⟩ = some (.int .i64 hour)) (hb1 : B1 < w.heap.size) (hb2 : B2 < w.heap.size) (hb3 : B3 < w.heap.size)
    (hgs : w.cell? ⟨gs, 2, none⟩ = some (.slice (some ⟨A3, off3, none⟩) m cap3)) (hgl : gs < w.heap.size) (hA : A3 < w.heap.size) (hkm : kase < m) (hcs : w.cell? ⟨A3, off3 + kase, none⟩ = some sv) (hR : RowsAt w sv 8 Cl.cells zs) :
    SeqStopsK Fence.wide n Try.prog 101 #[.pointer (some ⟨B1, 0, none⟩), .pointer (some ⟨B2, 0, none⟩), .pointer (some ⟨B3, 0, none⟩)] (fun x => wlEnc (x, clAt zs x)) (Below w.heap.size) (fun ys => ys = uptoC hour zs zs.length) (fun pre => ∃ k, k ≤ zs.length ∧ pre = uptoC hour zs k) zs.length w := fun l J Jx W hW hJ _ hY h0 =>
  cloudsAt1_in n hn l B1 B2 B3 W.heap.size gs kase A3 cap3 off3 m hour w sv zs J Jx hJ hY W hW ((hW.cell (p := ⟨B1, 0, none⟩) hb1).trans b1) ((hW.cell (p := ⟨B2, 0, none⟩) hb2).trans b2) ((hW.cell (p := ⟨B3, 0, none⟩) hb3).trans b3) hb3
    ((hW.cell (p := ⟨gs, 2, none⟩) hgl).trans hgs) hkm ((hW.cell (p := ⟨A3, off3 + kase, none⟩) hA).trans hcs) hR h0

end Go.Proofs.Ytojbdmdjepgpjaa
