/-
  THE ITERATOR of blocking: its rounds get the index of each wall that blocks between two stations. Conditions: the stations' and the walls' numbers are in their ranges.
-/
import Derived.Test.YtojbdmdjepgpjaaCl
import Derived.Test.YtojbdmdjepgpjaaSq
import Derived.Test.YtojbdmdjepgpjaaBk
namespace Go.Proofs.Ytojbdmdjepgpjaa
open Go.RowKit Go.Shelf
attribute [local go_sem] Oper.semAt_some

theorem ownFrom_up {β : Type} {B B' : Nat} {I : β → World → Prop} (h : OwnFrom B I) (hB : B ≤ B') : OwnFrom B' I := fun s W W' row hs hg hr => h s W W' row hs hg (fun r e => ⟨Nat.le_trans hB (hr r e).1, (hr r e).2⟩)
theorem ownFrom_at {α β : Type} {B : Nat} {I : β → World → Prop} (h : OwnFrom B I) (f : α → β) : OwnFrom B (fun s W => I (f s) W) := fun s W W' row hs hg hr => h (f s) W W' row hs hg hr

/-- In the wide fence a round is told of no depth, and of no loop. -/
theorem roundIn_any {n m l2 : Nat} {P : Program} {l : Nat} {f : FuncId} {tmps : Array Value} {assign body : Code} {w : World} {R : Ending → World → Prop} (h : RoundIn Fence.wide n P l f tmps assign body w R) : RoundIn (Fence.wide.inRound l2) m P l f tmps assign body w R :=
  ⟨h.1, fun c cs _ => h.2 c cs (room_wide _)⟩

def okSt (s : St) : Prop := (0 ≤ s.x ∧ s.x ≤ 100) ∧ (0 ≤ s.y ∧ s.y ≤ 100) ∧ (0 ≤ s.z ∧ s.z ≤ 1000)
def okWl (x : Wl) : Prop := (0 ≤ x.x1 ∧ x.x1 ≤ 100) ∧ (0 ≤ x.y1 ∧ x.y1 ≤ 100) ∧ (0 ≤ x.x2 ∧ x.x2 ≤ 100) ∧ (0 ≤ x.y2 ∧ x.y2 ≤ 100) ∧ (0 ≤ x.b ∧ x.b ≤ 1000) ∧ (0 ≤ x.t ∧ x.t ≤ 1000)

set_option maxRecDepth 100000 in
set_option maxHeartbeats 4000000 in
theorem blocking1_in (n : Nat) (hn : 4 ≤ n) (l BL BW gf : Nat) (lb : Array Value) (a b : St) (ha : okSt a) (hb : okSt b) (wal : Nat → Wl) (hwal : ∀ i, okWl (wal i)) (S Sp : List Nat → Prop) (N : Nat) (win w0 : World)
    (eg : ∀ args w, (callFunc gf args).run Try.prog w = .ok (.enter gf args) w) (hseq : SeqStopsK Fence.wide (n - 1) Try.prog gf lb (fun x => wlEnc (x, wal x)) (Below win.heap.size) S Sp N win) (hwin : Below win.heap.size win w0)
    (J : List Nat → World → Prop) (W : World) (hW0 : Below w0.heap.size w0 W) (hl0 : w0.heap.size ≤ l) (hl1 : l < W.heap.size) (hJ : OwnFrom W.heap.size J)
    (hY : ∀ pre x W1, J pre W1 → pre.length < N → YieldAt Fence.wide (n - 1) Try.prog l #[iv (x : Nat)] W1 fun e W' => e = .returned (.bool true) ∧ J (pre ++ [x]) W' ∧ Below w0.heap.size W1 W' ∧ Above 103 l W1 W')
    (h0 : J [] W) (hBL : Box w0 BL 111 #[iv a.x, iv a.y, iv a.z, iv a.m, iv b.x, iv b.y, iv b.z, iv b.m]) (hBW : w0.cell? ⟨BW, 0, none⟩ = some (.func (.func gf) #[] lb)) (hBWl : BW < w0.heap.size) :
    CallsIn Fence.wide n Try.prog 99 #[.func (.yield l) #[] #[], .pointer (some ⟨BW, 0, none⟩), .pointer (some ⟨BL, 0, none⟩)] W fun e W' => (∃ v, e = .returned v) ∧
      ∃ xs, (∃ ys, S ys ∧ xs = ys.filter fun i => blocksW a b (wal i)) ∧ J xs W' := by
  have h1 : 1 ≤ n := by omega
  have hW := hW0.size
  have hBWc : W.cell? ⟨BW, 0, none⟩ = some (.func (.func gf) #[] lb) := (hW0.cell (p := ⟨BW, 0, none⟩) hBWl).trans hBW
  have hBWl2 : BW < W.heap.size := by omega
  refine callsIn_of_wp_marks Try.func99 rfl trivial ?_ rfl
  simp only [Try.ntmps99, List.size_toArray, List.length_cons, List.length_nil, Nat.reduceAdd, Nat.reduceSub, Array.replicate_succ, Array.replicate_zero, List.push_toArray, List.append_toArray, List.nil_append, List.cons_append]
  have HY := Lib.hid hY
  have HS := Lib.hid hseq
  clear hY hseq
  gi_wp2
  have bY := Boxed.new W 103 (.func (.yield l) #[] #[])
  have hB1 : Below W.heap.size W (W.alloc (.cells #[.func (.yield l) #[] #[]] 103)) := (Below.refl _ W).alloc (Nat.le_refl _) _
  have hJ1 : J [] (W.alloc (.cells #[.func (.yield l) #[] #[]] 103)) := hJ.alloc _ h0
  have hsz : (W.alloc (.cells #[.func (.yield l) #[] #[]] 103)).heap.size = W.heap.size + 1 := by simp
  obtain ⟨V, hV⟩ : ∃ V, W.alloc (.cells #[.func (.yield l) #[] #[]] 103) = V := ⟨_, rfl⟩
  rw [hV] at bY hB1 hJ1 hsz ⊢
  clear hV
  refine wpIn_rangeFunc_ownH rfl h1 (gf := gf) (lb := lb) rfl trivial eg HS.out belowK_t (belowK_b (by have := hwin.size; omega)) (hwin.trans ((hW0.mono hwin.size).trans (hB1.mono (by have := hwin.size; omega)))) (fun _ => rfl)
    (fun pre W' => (J (pre.filter fun i => blocksW a b (wal i)) W' ∧ Boxed W' W.heap.size 103 (.func (.yield l) #[] #[])) ∧ Below w0.heap.size w0 W')
    (fun _ _ _ => False)
    (OwnFrom.and (OwnFrom.and (ownFrom_at (ownFrom_up hJ (by omega)) _) (Own.from (boxed_own (β := List Nat) _ _ (fun _ => .func (.yield l) #[] #[])) _)) (ownFrom_below (Nat.le_refl _) (by omega)))
    (fun _ _ _ _ _ hs _ _ => hs)
    ⟨⟨hJ1, bY⟩, hW0.trans (hB1.mono hW)⟩
    (fun x a' W' => ∃ Bx, W.heap.size < Bx ∧ Box W' Bx 68 #[iv (wal x).x1, iv (wal x).y1, iv (wal x).x2, iv (wal x).y2, iv (wal x).b, iv (wal x).t] ∧ a' = { tmps := #[.func (.yield l) #[] #[], .pointer (some ⟨BW, 0, none⟩), .pointer (some ⟨BL, 0, none⟩), .pointer (some ⟨W.heap.size, 0, none⟩), .int .i64 (x : Nat), .pointer (some ⟨Bx, 0, none⟩), .func (.func gf) #[] lb, .int .i64 (x : Nat), wlV (wal x), undef, undef, undef, undef, undef, undef, undef, undef, undef], defers := [] })
    (fun x a' _ X Y row hs hg hr => by
      obtain ⟨Bx, h1, h2, h3⟩ := hs
      exact ⟨Bx, h1, h2.grown hg (fun e => by obtain ⟨_, o, ho, hc⟩ := hr _ e.symm; rw [show X.heap[Bx]? = _ from h2] at ho; cases ho; cases hc), h3⟩)
    ?assign ?body ?done ?stop
  case assign =>
    rintro l2 pre x W2 K ⟨⟨hJ2, bY2⟩, hB2⟩ hK
    dsimp only [wlEnc, wlV]
    gi_wp2
    exact hK _ _ ((KeepsOthers.alloc _ _).from _) ((Below.refl _ W2).alloc (by have := hwin.size; have := hB2.size; omega) _) ⟨⟨(ownFrom_up hJ (Nat.le_refl _)).alloc _ hJ2, bY2.alloc _⟩, hB2.alloc hB2.size _⟩ ⟨W2.heap.size, bY2.lt, Box.new rfl, rfl⟩
  case body =>
    rintro l2 pre x a' W2 hl2 ⟨r2, hr2⟩ ⟨⟨hJ2, bY2⟩, hB2⟩ ⟨Bx, hBx, bX, rfl⟩ hlen
    have bL := Box.later hB2 hBL
    have cL := fun i => bL.cell i
    have cX := fun i => bX.cell i
    have cY := bY2.cell
    obtain ⟨wa, wb, wc, wd, we, wf⟩ := hwal x
    have hfl := List.length_filter_le (fun i => blocksW a b (wal i)) pre
    cases hbl : blocksW a b (wal x) with
    | true =>
      have Hbl := Lib.hid hbl
      clear hbl
      gi_wp2_with fail
      refine ⟨trivial, fun _ => by omega, ?_⟩
      refine (CallsIn.inRound l2 (callsIn_wide.2 (blockedBy_any _ _ _ _ _ _ _ _ _ _ _ _ _ _ _ ha.1 ha.2.1 hb.1 hb.2.1 wa wb wc wd ha.2.2 hb.2.2 we wf))).mono ?_
      rintro e w1 ⟨he, hb1⟩
      rw [show blockI a.x a.y a.z b.x b.y b.z (wal x).x1 (wal x).y1 (wal x).x2 (wal x).y2 (wal x).b (wal x).t = true from Hbl.out] at he
      subst he
      have cY1 := (bY2.kept (grown_of_below hb1) (by simp)).cell
      obtain ⟨fn, tmps, assign, body, hy, hround⟩ := HY.out _ x w1 (hJ _ _ _ none hJ2 (grown_of_below hb1) (by simp)) (by omega)
      have Hr := Lib.hid hround
      clear hround
      gi_wp2
      refine ⟨fun _ => by omega, ?_⟩
      refine (roundIn_any Hr.out).mono ?_
      rintro e W3 ⟨rfl, hJ3, hb3, ha3⟩
      gi_wp2
      have hz := hwin.size
      have hz2 := hB2.size
      refine ⟨(KeepsFrom.of_grownBy (grown_of_below hb1) (by simp)).trans (ha3.keeps (by omega)), (hb1.mono (by omega)).trans (hb3.mono hz), ⟨?_, ha3.boxed hl1 (bY2.kept (grown_of_below hb1) (by simp))⟩, hB2.trans ((hb1.mono hz2).trans hb3)⟩
      rw [List.filter_append]
      simp only [List.filter_cons, List.filter_nil, Hbl.out, if_true]
      exact hJ3
    | false =>
      have Hbl := Lib.hid hbl
      clear hbl
      gi_wp2_with fail
      refine ⟨trivial, fun _ => by omega, ?_⟩
      refine (CallsIn.inRound l2 (callsIn_wide.2 (blockedBy_any _ _ _ _ _ _ _ _ _ _ _ _ _ _ _ ha.1 ha.2.1 hb.1 hb.2.1 wa wb wc wd ha.2.2 hb.2.2 we wf))).mono ?_
      rintro e w1 ⟨he, hb1⟩
      rw [show blockI a.x a.y a.z b.x b.y b.z (wal x).x1 (wal x).y1 (wal x).x2 (wal x).y2 (wal x).b (wal x).t = false from Hbl.out] at he
      subst he
      gi_wp2
      refine ⟨fun _ h => (by cases h), ?_⟩
      gi_wp2
      have hz := hwin.size
      have hz2 := hB2.size
      refine ⟨KeepsFrom.of_grownBy (grown_of_below hb1) (by simp), hb1.mono (by omega), ⟨?_, bY2.kept (grown_of_below hb1) (by simp)⟩, hB2.trans (hb1.mono hz2)⟩
      rw [List.filter_append]
      simp only [List.filter_cons, List.filter_nil, Hbl.out, Bool.false_eq_true, if_false, List.append_nil]
      exact hJ _ _ _ none hJ2 (grown_of_below hb1) (by simp)
  case done =>
    rintro D ys W2 hD hS ⟨⟨hJ2, bY2⟩, hB2⟩ hd
    gi_wp2
    refine ⟨by simp, .inl ⟨_, _, rfl, run_takeDeferred hd, ?_⟩⟩
    exact ⟨_, results_none rfl _ _ _, ⟨_, rfl⟩, _, ⟨ys, hS, rfl⟩, (ownFrom_up hJ (Nat.le_refl _)).putObj _ hJ2 (by omega) hd rfl⟩
  case stop =>
    rintro D c pre W2 _ _ h _
    exact h.elim

/-- **blocking's value**: the indexes of the walls that block, in order. -/
theorem blocking_own (n : Nat) (hn : 4 ≤ n) (BL BW gf : Nat) (lb : Array Value) (a b : St) (ha : okSt a) (hb : okSt b) (wal : Nat → Wl) (hwal : ∀ i, okWl (wal i)) (S Sp : List Nat → Prop) (N : Nat) (win w0 : World)
    (eg : ∀ args w, (callFunc gf args).run Try.prog w = .ok (.enter gf args) w) (hseq : SeqStopsK Fence.wide (n - 1) Try.prog gf lb (fun x => wlEnc (x, wal x)) (Below win.heap.size) S Sp N win) (hwin : Below win.heap.size win w0)
    (hBL : Box w0 BL 111 #[iv a.x, iv a.y, iv a.z, iv a.m, iv b.x, iv b.y, iv b.z, iv b.m]) (hBW : w0.cell? ⟨BW, 0, none⟩ = some (.func (.func gf) #[] lb)) (hBWl : BW < w0.heap.size) :
    SeqOwn Fence.wide n Try.prog 99 #[.pointer (some ⟨BW, 0, none⟩), .pointer (some ⟨BL, 0, none⟩)] (fun x : Nat => #[iv x]) 103 (fun xs => ∃ ys, S ys ∧ xs = ys.filter fun i => blocksW a b (wal i)) N w0 := fun l J W hW hl0 hl1 hJ hY h0 =>
  blocking1_in n hn l BL BW gf lb a b ha hb wal hwal S Sp N win w0 eg hseq hwin J W hW hl0 hl1 hJ hY h0 hBL hBW hBWl

end Go.Proofs.Ytojbdmdjepgpjaa
