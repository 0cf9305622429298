/-
  WALKS of slices.AppendSeq (onto nothing) and slices.Collect, over an iterator of indexes that itself lays loops. Conditions: at most 1000 come.
-/
import Derived.Test.YtojbdmdjepgpjaaBg
import Derived.Test.YtojbdmdjepgpjaaCc
namespace Go.Proofs.Ytojbdmdjepgpjaa
open Go.RowKit Go.Shelf
attribute [local go_sem] Oper.semAt_some

theorem SeqOwn.later {α : Type} {F : Fence} {n : Nat} {P : Program} {g : Nat} {lb : Array Value} {encs : α → Array Value} {t : TypeId} {S : List α → Prop} {N : Nat} {w w' : World} (h : SeqOwn F n P g lb encs t S N w) (hb : Below w.heap.size w w') : SeqOwn F n P g lb encs t S N w' := fun l J W hW hl0 hl1 hJ hY h0 =>
  h l J W (hb.trans (hW.mono hb.size)) (Nat.le_trans hb.size hl0) hl1 hJ (fun pre x W1 hj hlen => (hY pre x W1 hj hlen).mono fun _ _ ⟨h1, h2, h3, h4⟩ => ⟨h1, h2, h3.mono hb.size, h4⟩) h0

set_option maxRecDepth 100000 in
set_option maxHeartbeats 4000000 in
theorem AppendSeq_in (n : Nat) (hn : 4 ≤ n) (gf : Nat) (lb : Array Value) (S : List Nat → Prop) (N : Nat) (hN : N ≤ 1000) (w0 w : World) (eg : ∀ args w, (callFunc gf args).run Try.prog w = .ok (.enter gf args) w)
    (hseq : SeqOwn Fence.wide (n - 1) Try.prog gf lb (fun x : Nat => #[iv x]) 103 S N w0) (hb0 : Below w0.heap.size w0 w) :
    CallsIn Fence.wide n Try.prog 98 #[.slice none 0 0, .func (.func gf) #[] lb] w fun e W' => ∃ v xs, e = .returned v ∧ S xs ∧ W'.ownsRow w.heap.size 3 1 v xs.length (xs.map fun x => iv (x : Nat)) ∧ Below w.heap.size w W' := by
  have h1 : 1 ≤ n := by omega
  obtain ⟨i0, hi, hz0, hz1, hz2⟩ := info_parts int_info
  have HS := Lib.hid hseq
  clear hseq
  refine callsIn_of_wp_marks Try.func98 rfl trivial ?_ rfl
  simp only [Try.ntmps98, List.size_toArray, List.length_cons, List.length_nil, Nat.reduceAdd, Nat.reduceSub, Array.replicate_succ, Array.replicate_zero, List.push_toArray, List.append_toArray, List.nil_append, List.cons_append]
  gi_wp2
  have bO := Boxed.new w 41 (.slice none 0 0)
  have hB0 : Below w.heap.size w (w.alloc (.cells #[.slice none 0 0] 41)) := (Below.refl _ w).alloc (Nat.le_refl _) _
  have hsz : (w.alloc (.cells #[.slice none 0 0] 41)).heap.size = w.heap.size + 1 := by simp
  have hw0 := hb0.size
  obtain ⟨V, hV⟩ : ∃ V, w.alloc (.cells #[.slice none 0 0] 41) = V := ⟨_, rfl⟩
  rw [hV] at bO hB0 hsz ⊢
  clear hV
  refine wpIn_range_own (t := 103) rfl h1 (gf := gf) (lb := lb) rfl trivial eg HS.out (hb0.trans (hB0.mono hw0)) (fun _ => rfl)
    (fun pre W => (∃ v, Boxed W w.heap.size 41 v ∧ W.ownsRow w.heap.size 3 1 v pre.length (pre.map fun x => iv (x : Nat)) ∧ True) ∧ Below w.heap.size w W)
    (OwnFrom.and (Own.from (holdsRow_own w.heap.size w.heap.size 41 3 1 (fun pre => pre.length) (fun pre : List Nat => pre.map fun x => iv (x : Nat)) (fun _ _ => True)) _) (ownFrom_below (Nat.le_refl _) (by omega)))
    ⟨⟨_, bO, World.ownsRow_nil _ _ _ _, trivial⟩, hB0⟩
    (fun x => { tmps := #[.slice none 0 0, .func (.func gf) #[] lb, .pointer (some ⟨w.heap.size, 0, none⟩), undef, .slice none 0 0, iv (x : Nat), .func (.func gf) #[] lb, iv (x : Nat), undef, undef, undef, undef, undef], defers := [] }) ?assign ?body ?done
  case assign =>
    intro l x W K hK
    gi_wp2
    exact hK
  case body =>
    rintro l pre x W hl ⟨⟨v, hv, hrow, -⟩, hB⟩ hlt
    have hc := hv.cell
    gi_wp2_with (gi_at_builtin; refine wpListIn_append_own _ rfl _ _ 41 rfl w.heap.size 3 i0 (.int .i64 0) 1 8 Try.underlying41 hi hz0 hz1 hz2 rfl (by decide) _ _ _ rfl (hrow.alloc _) ⟨W.heap.size, 0, none⟩ 1 1 [.int .i64 x] rfl rfl (cell_one_new _ _ _) (by simp [Value.oneCell']) (by unfold maxLen; omega) (by omega) (by have := hB.size; simp; omega) ?_; intro v' w1 hown' hgrow _; obtain ⟨g', cap', rfl⟩ := ownsRow_succ hown'; obtain ⟨hv1, hv2, hr2, hk2, hb2⟩ := hv.appended (by decide) hrow hB.size (Nat.le_refl _) hown' hgrow; have hc1 := hv1.cell; have hf1 := hv1.frozen)
    refine ⟨⟨⟨_, hv2, by simpa using hr2⟩, hB.trans hb2⟩, hb2.mono hw0, ?_, by simpa using hk2.from _⟩
    refine (Above.of_grownBy (World.grownBy_alloc W _ none) (by simp)).trans ((Above.of_grownBy hgrow fun r er hlr => ?_).trans (Above.of_grownBy (grownBy_setCell' w1 _ _) fun r er hlr => ?_))
    · rcases (hrow.alloc (.cells #[iv (x : Nat)] 3)).2 with ⟨rfl, _⟩ | ⟨g, cap, cur, rfl, _, hgb, _⟩
      · simp [Act.eval, Value.ownBlock] at er
      · have eg : g = r := by simpa [Act.eval, Value.ownBlock] using er
        subst eg
        exact ⟨_, _, _, hgb, by decide⟩
    · have eg : w.heap.size = r := by simpa using er
      subst eg
      omega
  case done =>
    rintro D ys W hD hS ⟨⟨v, hv, hrow, -⟩, hB⟩ hK
    have hc := hv.cell
    gi_wp2
    refine ⟨by simp, .inl ⟨_, _, rfl, run_takeDeferred hK, ?_⟩⟩
    exact ⟨_, results_tmp rfl _ _ _, v, ys, rfl, hS, ownsRow_putObj hrow _ hK rfl, hB.trans (belowK_b (w := w) (Nat.le_refl _) W D _ _ (by omega) hK rfl rfl)⟩

set_option maxRecDepth 100000 in
set_option maxHeartbeats 2000000 in
/-- **slices.Collect of such an iterator.** -/
theorem Collect_any (gf : Nat) (lb : Array Value) (S : List Nat → Prop) (N : Nat) (hN : N ≤ 1000) (w : World) (eg : ∀ args w, (callFunc gf args).run Try.prog w = .ok (.enter gf args) w)
    (hseq : ∀ n, 4 ≤ n → SeqOwn Fence.wide n Try.prog gf lb (fun x : Nat => #[iv x]) 103 S N w) :
    Calls Try.prog 80 #[.func (.func gf) #[] lb] w fun e W' => ∃ v xs, e = .returned v ∧ S xs ∧ W'.ownsRow w.heap.size 3 1 v xs.length (xs.map fun x => iv (x : Nat)) ∧ Below w.heap.size w W' := by
  have HS := Lib.hid hseq
  clear hseq
  go_enter Try.func80, Try.ntmps80
  go_wp2_with (go_at_call 98; refine (callsIn_wide.1 (AppendSeq_in 9 (by omega) gf lb S N hN w w eg (HS.out 8 (by omega)) up0)).mono ?_; rintro e w1 ⟨v, xs, rfl, hS, ho, hb⟩)
  go_ret
  exact ⟨v, xs, by simp [go_sem], hS, ho, hb⟩

end Go.Proofs.Ytojbdmdjepgpjaa
