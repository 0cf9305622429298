/-
  WALKS of the makers of iterators: slices.All, cloudsAt, blocking: the values, and the boxes that they hold.
  WALK of '(*site).clouds'. Conditions: the stations, the case and the hour are there; the land is without an error.
-/
import Derived.Test.YtojbdmdjepgpjaaCo
import Derived.Test.YtojbdmdjepgpjaaIx
namespace Go.Proofs.Ytojbdmdjepgpjaa
open Go.RowKit

theorem All_mk (A : Option Addr) (m cap : Nat) (w : World) : Calls Try.prog 82 #[.slice A m cap] w fun e w' => e = .returned (.func (.func 100) #[] #[.pointer (some ⟨w.heap.size, 0, none⟩)]) ∧ w' = w.alloc (.cells #[.slice A m cap] 33) := by
  go_enter Try.func82, Try.ntmps82
  go_wp2
  go_ret
  exact ⟨rfl, rfl⟩

theorem cloudsAt_mk (gs : Nat) (kase hour : Int) (w : World) : Calls Try.prog 83 #[.pointer (some ⟨gs, 0, none⟩), .int .i64 kase, .int .i64 hour] w fun e w' =>
    e = .returned (.func (.func 101) #[] #[.pointer (some ⟨w.heap.size, 0, none⟩), .pointer (some ⟨w.heap.size + 1, 0, none⟩), .pointer (some ⟨w.heap.size + 2, 0, none⟩)]) ∧
    w' = ((w.alloc (.cells #[.pointer (some ⟨gs, 0, none⟩)] 92)).alloc (.cells #[.int .i64 kase] 3)).alloc (.cells #[.int .i64 hour] 3) := by
  go_enter Try.func83, Try.ntmps83
  go_wp2
  go_ret
  exact ⟨rfl, rfl⟩

theorem blocking_mk (a b : St) (gf : Nat) (lb : Array Value) (w : World) : Calls Try.prog 81 #[.agg #[.int .i64 a.x, .int .i64 a.y, .int .i64 a.z, .int .i64 a.m, .int .i64 b.x, .int .i64 b.y, .int .i64 b.z, .int .i64 b.m], .func (.func gf) #[] lb] w fun e w' =>
    e = .returned (.func (.func 99) #[] #[.pointer (some ⟨w.heap.size + 1, 0, none⟩), .pointer (some ⟨w.heap.size, 0, none⟩)]) ∧
    w' = (w.alloc (.cells #[iv a.x, iv a.y, iv a.z, iv a.m, iv b.x, iv b.y, iv b.z, iv b.m] 111)).alloc (.cells #[.func (.func gf) #[] lb] 137) := by
  go_enter Try.func81, Try.ntmps81
  go_wp2
  go_ret
  exact ⟨rfl, rfl⟩

theorem enters_blocking1 : ∀ args w, (callFunc 99 args).run Try.prog w = .ok (.enter 99 args) w := enters_of Try.func99 (by kernel_rfl) rfl
theorem enters_All1 : ∀ args w, (callFunc 100 args).run Try.prog w = .ok (.enter 100 args) w := enters_of Try.func100 (by kernel_rfl) rfl
theorem enters_cloudsAt1 : ∀ args w, (callFunc 101 args).run Try.prog w = .ok (.enter 101 args) w := enters_of Try.func101 (by kernel_rfl) rfl

/-- **slices.Collect of blocking's value**, where the walls come from an iterator at win. -/
theorem Collect_blocking (w win : World) (B1 B2 gf : Nat) (lb : Array Value) (a b : St) (ha : okSt a) (hb : okSt b) (wal : Nat → Wl) (hwal : ∀ i, okWl (wal i)) (S Sp : List Nat → Prop) (N : Nat) (hN : N ≤ 1000)
    (eg : ∀ args w, (callFunc gf args).run Try.prog w = .ok (.enter gf args) w) (hseq : ∀ n, 1 ≤ n → SeqStopsK Fence.wide n Try.prog gf lb (fun x => wlEnc (x, wal x)) (Below win.heap.size) S Sp N win) (hwin : Below win.heap.size win w)
    (h1 : Box w B1 111 #[iv a.x, iv a.y, iv a.z, iv a.m, iv b.x, iv b.y, iv b.z, iv b.m]) (h2 : Box w B2 137 #[.func (.func gf) #[] lb]) :
    Calls Try.prog 80 #[.func (.func 99) #[] #[.pointer (some ⟨B2, 0, none⟩), .pointer (some ⟨B1, 0, none⟩)]] w fun e W' =>
      ∃ v xs, e = .returned v ∧ (∃ ys, S ys ∧ xs = ys.filter fun i => blocksW a b (wal i)) ∧ W'.ownsRow w.heap.size 3 1 v xs.length (xs.map fun x => iv (x : Nat)) ∧ Below w.heap.size w W' :=
  Collect_any _ _ _ N hN w enters_blocking1 fun n hn => blocking_own n hn B1 B2 gf lb a b ha hb wal hwal S Sp N win w eg (hseq _ (by omega)) hwin h1 (by rw [h2.cell]; rfl) h2.lt

end Go.Proofs.Ytojbdmdjepgpjaa

namespace Go.Proofs.Ytojbdmdjepgpjaa
open Go.RowKit

theorem okSt_of {s : St} (h : StOK s) : okSt s := by unfold StOK at h; unfold okSt; omega
theorem okWl_of {x : Wl} (h : WlOK x) : okWl x := by unfold WlOK at h; unfold okWl; omega
theorem okWl_0 : okWl ⟨0, 0, 0, 0, 0, 0⟩ := by simp [okWl]
theorem okWl_cl {zs : List Cl} (h : ∀ x ∈ zs, WlOK x.w) (i : Nat) : okWl (clAt zs i) := by
  cases hx : zs[i]? with
  | none => simpa [clAt, hx] using okWl_0
  | some x => rw [clAt_eq hx]; exact okWl_of (h x (List.mem_of_getElem? hx))
theorem okWl_w {zs : List Wl} (h : ∀ x ∈ zs, WlOK x) (i : Nat) : okWl (wAt zs i) := by
  cases hx : zs[i]? with
  | none => simpa [wAt, hx] using okWl_0
  | some x => rw [wAt_eq hx]; exact okWl_of (h x (List.mem_of_getElem? hx))

def cloudB (a b : St) (h : Int) (c : Cl) : Bool := inB c.f c.t h && blocksW a b c.w
theorem cloudsI_eq (a b : St) (h : Int) (zs : List Cl) : ((uptoC h zs zs.length).filter fun i => blocksW a b (clAt zs i)).map (fun x => iv (x : Nat)) = (whichB (cloudB a b h) zs).map iv := by
  unfold whichB uptoC
  rw [List.filter_filter, List.map_map]
  have : (List.range zs.length).filter (fun i => blocksW a b (clAt zs i) && hereB h zs i) = (List.range zs.length).filter (fun i => (zs[i]?.map (cloudB a b h)).getD false) := by
    refine List.filter_congr fun i hi => ?_
    have hlt := List.mem_range.1 hi
    simp [clAt, hereB, cloudB, List.getElem?_eq_getElem hlt, Bool.and_comm]
  rw [this]
  rfl
theorem whichB_length {α : Type} (p : α → Bool) (l : List α) : (whichB p l).length ≤ l.length := by
  unfold whichB
  rw [List.length_map]
  have := List.length_filter_le (fun i => (l[i]?.map p).getD false) (List.range l.length)
  rwa [List.length_range] at this

set_option maxRecDepth 100000 in
set_option maxHeartbeats 4000000 in
theorem clouds_any (gs gm i j k : Nat) (h : Int) (s t : St) (v1 v2 v3 v4 sv : Value) (L : Ld) (c : List (Value × List Cl)) (zs : List Cl) (m : List ((Int × Int) × Value)) (w : World) (hS : SiteAt w gs gm v1 v2 v3 v4 L c m) (hO : LandOK L) (hi : L.st[i]? = some s) (hj : L.st[j]? = some t) (hk : c[k]? = some (sv, zs)) :
    Calls Try.prog 50 #[.pointer (some ⟨gs, 0, none⟩), .int .i64 i, .int .i64 j, .int .i64 k, .int .i64 h] w fun e w' => ∃ v, e = .returned v ∧ RowsAt w' v 1 (fun n => [iv n]) (whichB (cloudB s t h) zs) ∧ Below w.heap.size w w' := by
  have HS := Lib.hid hS
  have HO := Lib.hid hO
  have Hi := Lib.hid hi
  have Hj := Lib.hid hj
  have Hk := Lib.hid hk
  clear hS hO hi hj hk
  go_enter Try.func50, Try.ntmps50
  go_wp2_with fail
  refine (line_any gs gm i j s t v1 v2 v3 v4 L c m w HS.out Hi.out Hj.out).mono ?_
  rintro e w1 ⟨rfl, hb1⟩
  go_wp2_with fail
  refine (cloudsAt_mk gs k h w1).mono ?_
  rintro e w2 ⟨rfl, hw2⟩
  have HW2 := Lib.hid hw2
  clear hw2
  go_wp2_with fail
  refine (blocking_mk s t _ _ w2).mono ?_
  rintro e w3 ⟨rfl, hw3⟩
  have HW3 := Lib.hid hw3
  clear hw3
  go_wp2_with fail
  have e2 := HW2.out
  have P0 : Box w2 w1.heap.size 92 #[.pointer (some ⟨gs, 0, none⟩)] := by rw [e2]; exact ((Box.new rfl).alloc _).alloc _
  have P1 : Box w2 (w1.heap.size + 1) 3 #[.int .i64 k] := by rw [e2]; exact (Box.new (by simp)).alloc _
  have P2 : Box w2 (w1.heap.size + 2) 3 #[.int .i64 h] := by rw [e2]; exact Box.new (by simp)
  have b2 : Below w1.heap.size w1 w2 := by rw [e2]; exact up_alloc (up_alloc (up_alloc up0 _) _) _
  have hS2 := (HS.out.kept hb1).kept b2
  have e3 := HW3.out
  have Q1 : Box w3 w2.heap.size 111 #[iv s.x, iv s.y, iv s.z, iv s.m, iv t.x, iv t.y, iv t.z, iv t.m] := by rw [e3]; exact (Box.new rfl).alloc _
  have Q2 : Box w3 (w2.heap.size + 1) 137 #[.func (.func 101) #[] #[.pointer (some ⟨w1.heap.size, 0, none⟩), .pointer (some ⟨w1.heap.size + 1, 0, none⟩), .pointer (some ⟨w1.heap.size + 2, 0, none⟩)]] := by rw [e3]; exact Box.new (by simp)
  have b3 : Below w2.heap.size w2 w3 := by rw [e3]; exact up_alloc (up_alloc up0 _) _
  clear e2 e3
  obtain ⟨_, A3', cap3, hv3, _, _⟩ := hS2.land.cs.form
  obtain ⟨A3, off3, hA, hlt3, hc3⟩ := hS2.land.cs.at hv3 Hk.out
  subst hA
  have hR := hS2.land.each _ (List.mem_of_getElem? Hk.out)
  have hzs : zs ∈ L.cs := by rw [← hS2.land.eq]; exact List.mem_map.2 ⟨_, List.mem_of_getElem? Hk.out, rfl⟩
  have hcg : w2.cell? ⟨gs, 2, none⟩ = some (.slice (some ⟨A3, off3, none⟩) c.length cap3) := by rw [hS2.box.cell 2, ← hv3]; rfl
  refine (Collect_blocking w3 w2 w2.heap.size (w2.heap.size + 1) _ _ s t (okSt_of (HO.out.st s (List.mem_of_getElem? Hi.out)).1) (okSt_of (HO.out.st t (List.mem_of_getElem? Hj.out)).1) (clAt zs) (okWl_cl (HO.out.cs zs hzs)) _ _ zs.length hR.form.1 enters_cloudsAt1
    (fun n hn => cloudsAt_stops n hn _ _ _ gs k A3 cap3 off3 c.length h w2 sv zs ((P0.cell 0).trans rfl) ((P1.cell 0).trans rfl) ((P2.cell 0).trans rfl) P0.lt P1.lt P2.lt hcg hS2.box.lt hlt3 (List.getElem?_eq_some_iff.1 Hk.out).1 (by simpa using hc3 0 sv rfl) hR) b3 Q1 Q2).mono ?_
  rintro e w4 ⟨v, xs, rfl, ⟨ys, rfl, rfl⟩, ho, hb4⟩
  have hlz := hR.form.1
  clear P0 P1 P2 Q1 Q2 hcg hR hc3
  go_wp2
  go_ret
  refine ⟨v, by simp [go_sem], ?_, up_later hb1 (up_later b2 (up_later b3 hb4))⟩
  rw [cloudsI_eq] at ho
  exact RowsAt.of_own ho (by have := whichB_length (cloudB s t h) zs; omega)

end Go.Proofs.Ytojbdmdjepgpjaa
