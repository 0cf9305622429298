/-
  WALKS of the makers of iterators: slices.All, cloudsAt, blocking: the values, and the boxes that they hold.
-/
import Derived.Test.YtpmhhdhkhhlfpaaCo
namespace Go.Proofs.Ytpmhhdhkhhlfpaa
open Go.RowKit

theorem All_mk (A : Option Addr) (m cap : Nat) (w : World) : Calls Try.prog 82 #[.slice A m cap] w fun e w' => e = .returned (.func (.func 100) #[] #[.pointer (some ⟨w.heap.size, 0, none⟩)]) ∧ w' = w.alloc (.cells #[.slice A m cap] 33) := by
  go_enter Try.func82, Try.ntmps82
  go_wp2
  go_ret
  exact ⟨rfl, rfl⟩

theorem cloudsAt_mk (gs : Nat) (kase hour : Int) (w : World) : Calls Try.prog 83 #[.pointer (some ⟨gs, 0, none⟩), .int .i64 kase, .int .i64 hour] w fun e w' =>
    e = .returned (.func (.func 101) #[] #[.pointer (some ⟨w.heap.size, 0, none⟩), .pointer (some ⟨w.heap.size + 1, 0, none⟩), .pointer (some ⟨w.heap.size + 2, 0, none⟩)]) ∧
    w' = ((w.alloc (.cells #[.pointer (some ⟨gs, 0, none⟩)] 93)).alloc (.cells #[.int .i64 kase] 3)).alloc (.cells #[.int .i64 hour] 3) := by
  go_enter Try.func83, Try.ntmps83
  go_wp2
  go_ret
  exact ⟨rfl, rfl⟩

theorem blocking_mk (a b : St) (gf : Nat) (lb : Array Value) (w : World) : Calls Try.prog 81 #[.agg #[.int .i64 a.x, .int .i64 a.y, .int .i64 a.z, .int .i64 a.m, .int .i64 b.x, .int .i64 b.y, .int .i64 b.z, .int .i64 b.m], .func (.func gf) #[] lb] w fun e w' =>
    e = .returned (.func (.func 99) #[] #[.pointer (some ⟨w.heap.size + 1, 0, none⟩), .pointer (some ⟨w.heap.size, 0, none⟩)]) ∧
    w' = (w.alloc (.cells #[iv a.x, iv a.y, iv a.z, iv a.m, iv b.x, iv b.y, iv b.z, iv b.m] 112)).alloc (.cells #[.func (.func gf) #[] lb] 138) := by
  go_enter Try.func81, Try.ntmps81
  go_wp2
  go_ret
  exact ⟨rfl, rfl⟩

theorem enters_blocking1 : ∀ args w, (callFunc 99 args).run Try.prog w = .ok (.enter 99 args) w := enters_of Try.func99 (by kernel_rfl) rfl
theorem enters_All1 : ∀ args w, (callFunc 100 args).run Try.prog w = .ok (.enter 100 args) w := enters_of Try.func100 (by kernel_rfl) rfl
theorem enters_cloudsAt1 : ∀ args w, (callFunc 101 args).run Try.prog w = .ok (.enter 101 args) w := enters_of Try.func101 (by kernel_rfl) rfl

/-- **slices.Collect of blocking's value**, where the walls come from an iterator at win. -/
theorem Collect_blocking (w win : World) (B1 B2 gf : Nat) (lb : Array Value) (a b : St) (ha : okSt a) (hb : okSt b) (wal : Nat → Wl) (hwal : ∀ i, okWl (wal i)) (S Sp : List Nat → Prop) (N : Nat) (hN : N ≤ 1000)
    (eg : ∀ args w, (callFunc gf args).run Try.prog w = .ok (.enter gf args) w) (hseq : ∀ n, 1 ≤ n → SeqStopsK Fence.wide n Try.prog gf lb (fun x => wlEnc (x, wal x)) (Below win.heap.size) S Sp N win) (hwin : Below win.heap.size win w)
    (h1 : Box w B1 112 #[iv a.x, iv a.y, iv a.z, iv a.m, iv b.x, iv b.y, iv b.z, iv b.m]) (h2 : Box w B2 138 #[.func (.func gf) #[] lb]) :
    Calls Try.prog 80 #[.func (.func 99) #[] #[.pointer (some ⟨B2, 0, none⟩), .pointer (some ⟨B1, 0, none⟩)]] w fun e W' =>
      ∃ v xs, e = .returned v ∧ (∃ ys, S ys ∧ xs = ys.filter fun i => blocksW a b (wal i)) ∧ W'.ownsRow w.heap.size 3 1 v xs.length (xs.map fun x => iv (x : Nat)) ∧ Below w.heap.size w W' :=
  Collect_any _ _ _ N hN w enters_blocking1 fun n hn => blocking_own n hn B1 B2 gf lb a b ha hb wal hwal S Sp N win w eg (hseq _ (by omega)) hwin h1 (by rw [h2.cell]; rfl) h2.lt

end Go.Proofs.Ytpmhhdhkhhlfpaa
