/-
  WALK of (lines).next, and the iterator that it makes: its rounds get each step that can be next, rising, with the place after it. Conditions: the place lies in both strings.
-/
import Derived.RangeFuncNested
import Derived.RangeFuncBox
import Derived.RangeFuncBound
import Derived.RangeFuncCalls
import Derived.RangeFuncLeaves
import Derived.Shelf.Abstract
import Derived.Shelf.RegionOpen
import Derived.OwnWalkIn
import Derived.TacticsInMore
import Derived.LoopNIn
import Derived.LoopIn
import Derived.Test.YtonekgefegfapaaGreatFf
namespace Go.Proofs.YtonekgefegfapaaGreat
open Go.RowKit Go.Shelf
attribute [local go_sem] Oper.semAt_some

set_option maxHeartbeats 400000 in
theorem next_any (g i j : Nat) (w : World) : Calls Tryz.prog 81 #[.pointer (some ⟨g, 0, none⟩), .agg #[iv i, iv j]] w fun e w' => e = .returned (.func (.func 101) #[] #[.pointer (some ⟨w.heap.size, 0, none⟩), .pointer (some ⟨w.heap.size + 1, 0, none⟩)]) ∧
    Box w' w.heap.size 99 #[.pointer (some ⟨g, 0, none⟩)] ∧ Box w' (w.heap.size + 1) 89 #[iv i, iv j] ∧ Below w.heap.size w w' := by
  go_enter Tryz.func81, Tryz.ntmps81
  go_wp2_with fail
  go_ret
  exact ⟨rfl, (Box.new rfl).alloc _, Box.new (by simp), up_alloc (up_alloc up0 _) _⟩

/-- A step that can be next at a place, with the place after it. -/
abbrev Nx (S R : By) (p : Nat × Nat) : Type := { x : Nat × Nat × Nat // x.1 < 6 ∧ aftI S R p x.1 = some x.2 }
def Nx.enc {S R : By} {p : Nat × Nat} (x : Nx S R p) : Array Value := #[iv x.1.1, .agg #[iv x.1.2.1, iv x.1.2.2]]
/-- The steps below n that can be next. -/
def nextTo (S R : By) (p : Nat × Nat) (n : Nat) : List (Nat × Nat × Nat) := (List.range n).filterMap fun k => (aftI S R p k).map fun q => (k, q)
theorem nextTo_succ {S R : By} {p : Nat × Nat} {n : Nat} : nextTo S R p (n + 1) = nextTo S R p n ++ match aftI S R p n with | some q => [(n, q)] | none => [] := by
  unfold nextTo
  rw [List.range_succ, List.filterMap_append]
  cases h : aftI S R p n <;> simp [h]
theorem nextTo_yes {S R : By} {p q : Nat × Nat} {n : Nat} (h : aftI S R p n = some q) : nextTo S R p (n + 1) = nextTo S R p n ++ [(n, q)] := by rw [nextTo_succ, h]
theorem nextTo_no {S R : By} {p : Nat × Nat} {n : Nat} (h : aftI S R p n = none) : nextTo S R p (n + 1) = nextTo S R p n := by rw [nextTo_succ, h]; simp
theorem nextTo_len (S R : By) (p : Nat × Nat) (n : Nat) : (nextTo S R p n).length ≤ n := by
  unfold nextTo
  have := List.length_filterMap_le (fun k => (aftI S R p k).map fun q => (k, q)) (List.range n)
  simpa using this
/-- All old blocks but two lie as they lay. -/
def KeptBut (B q1 q2 : Nat) (W W' : World) : Prop := W.heap.size ≤ W'.heap.size ∧ ∀ k, k < B → k ≠ q1 → k ≠ q2 → W'.heap[k]? = W.heap[k]?
theorem KeptBut.trans {B q1 q2 : Nat} {X Y Z : World} (h : KeptBut B q1 q2 X Y) (k : KeptBut B q1 q2 Y Z) : KeptBut B q1 q2 X Z := ⟨Nat.le_trans h.1 k.1, fun i hi h1 h2 => (k.2 i hi h1 h2).trans (h.2 i hi h1 h2)⟩
theorem KeptBut.box {B q1 q2 : Nat} {W W' : World} {g t : Nat} {cs : Array Value} (h : KeptBut B q1 q2 W W') (hb : Box W g t cs) (h0 : g < B) (h1 : g ≠ q1) (h2 : g ≠ q2) : Box W' g t cs := (h.2 g h0 h1 h2).trans hb
theorem kept_alloc {β : Type} {B : Nat} {J : β → World → Prop} (h : AbidesFrom B J) {s : β} {W W' : World} (hs : J s W) (hb : Below W.heap.size W W') : J s W' := h s W W' none hs (grown_of_below hb) (by simp)

set_option maxRecDepth 100000 in
set_option maxHeartbeats 1500000 in
theorem next1_stops (m : Nat) (hm : 4 ≤ m) (b1 b2 g i j B q1 q2 : Nat) (s r : ByteArray) (w0 : World) (hi : i ≤ s.size) (hj : j ≤ r.size) (hs9 : s.size ≤ 1000) (hr9 : r.size ≤ 1000)
    (h1 : Box w0 b1 99 #[.pointer (some ⟨g, 0, none⟩)]) (h2 : Box w0 b2 89 #[iv i, iv j]) (h3 : Box w0 g 137 (linesC s r)) (hB : B = w0.heap.size) (n1 : b1 ≠ q1 ∧ b1 ≠ q2) (n2 : b2 ≠ q1 ∧ b2 ≠ q2) (n3 : g ≠ q1 ∧ g ≠ q2) :
    SeqStopsK Fence.wide m Tryz.prog 101 #[.pointer (some ⟨b1, 0, none⟩), .pointer (some ⟨b2, 0, none⟩)] (Nx.enc (S := s.data.toList) (R := r.data.toList) (p := (i, j))) (KeptBut B q1 q2)
      (fun xs => xs.map (·.1) = nextI s.data.toList r.data.toList (i, j)) (fun xs => ∃ n, n ≤ 6 ∧ xs.map (·.1) = nextTo s.data.toList r.data.toList (i, j) n) 7 w0 := by
  intro l J Jx W hW hJ hJx hY h0
  have HJ := Lib.hid hJ
  have HY := Lib.hid hY
  have l1 := h1.lt
  have l2 := h2.lt
  have l3 := h3.lt
  have HK : Hid (Box W b1 99 #[.pointer (some ⟨g, 0, none⟩)] ∧ Box W b2 89 #[iv i, iv j] ∧ Box W g 137 (linesC s r)) := Lib.hid ⟨h1.kept hW, h2.kept hW, h3.kept hW⟩
  clear hJ hJx hY h1 h2 h3 hW
  refine callsIn_of_wp Tryz.func101 rfl trivial ?_ rfl
  simp only [Tryz.ntmps101, List.size_toArray, List.length_cons, List.length_nil, Nat.reduceAdd, Nat.reduceSub, Array.replicate_succ, Array.replicate_zero, List.push_toArray, List.append_toArray, List.nil_append, List.cons_append]
  gi_wp2_with fail
  gi_loopw [7] (fun v wr => ∃ k : Nat, k ≤ 6 ∧ v = .int .i64 k ∧ Hid (∃ pre : List (Nx s.data.toList r.data.toList (i, j)), pre.map (·.1) = nextTo s.data.toList r.data.toList (i, j) k ∧ J pre wr) ∧ Hid (Box wr b1 99 #[.pointer (some ⟨g, 0, none⟩)] ∧ Box wr b2 89 #[iv i, iv j] ∧ Box wr g 137 (linesC s r))) (fun v _ => 6 - (intOf v).toNat)
  case atStart => exact ⟨0, by omega, rfl, Lib.hid ⟨[], rfl, h0⟩, HK⟩
  case round =>
    clear HK
    obtain ⟨k, hk, rfl, HP, HK⟩ := hrel
    by_cases hlt : k < 6
    · have hlt' : (k : Int) < 6 := by omega
      obtain ⟨N1, N2, N3⟩ := HK.out
      have c1 := fun i => N1.cell i
      have c2 := fun i => N2.cell i
      gi_wp2_with fail
      refine ⟨trivial, fun _ => by omega, ?_⟩
      refine (callsIn_wide.2 (after_any g i j k s r _ hlt N3 hi hj hs9 hr9)).mono ?_
      rintro e w2 ⟨rfl, hb⟩
      obtain ⟨pre, hpre, hJp⟩ := HP.out
      have hlen : pre.length ≤ k := by
        have h := nextTo_len s.data.toList r.data.toList (i, j) k
        rw [← hpre, List.length_map] at h
        exact h
      have HPre := Lib.hid hpre
      have HJp := Lib.hid hJp
      clear hpre hJp c1 c2 HP HK
      cases hq : aftI s.data.toList r.data.toList (i, j) k with
      | none =>
        have HQ := Lib.hid hq
        have hb2 := Lib.hid (up_alloc hb (.cells #[iv 0, iv 0] 89))
        clear hq hb
        simp only [aftV]
        gi_wp2_with fail
        refine ⟨fun _ h => (by cases h), ?_⟩
        gi_wp2_with fail
        go_roundw
        case rel => exact ⟨k + 1, by omega, by go_num, Lib.hid ⟨pre, by rw [nextTo_no HQ.out, HPre.out], kept_alloc HJ.out HJp.out hb2.out⟩, Lib.hid ⟨N1.kept hb2.out, N2.kept hb2.out, N3.kept hb2.out⟩⟩
        case measure => simp [intOf]; omega
      | some q =>
        obtain ⟨a, c⟩ := q
        have HQ := Lib.hid hq
        have hb2 := Lib.hid (up_alloc hb (.cells #[iv a, iv c] 89))
        have M1 := Lib.hid (N1.kept hb2.out)
        have M2 := Lib.hid (N2.kept hb2.out)
        have M3 := Lib.hid (N3.kept hb2.out)
        obtain ⟨fn, tmps, assign, body, hy, hround⟩ := HY.out pre ⟨(k, a, c), hlt, HQ.out⟩ (w2.alloc (.cells #[iv a, iv c] 89)) (kept_alloc HJ.out HJp.out hb2.out) (by omega)
        simp only [Nx.enc] at hy
        have Hr := Lib.hid hround
        clear hround hq hb N1 N2 N3 hb2
        simp only [aftV]
        gi_wp2_with fail
        refine ⟨fun _ => by omega, ?_⟩
        refine Hr.out.mono ?_
        rintro e W3 (⟨rfl, hJ3, hk3⟩ | ⟨rfl, hJx3⟩)
        · have K1 := Lib.hid (hk3.box M1.out (by omega) n1.1 n1.2)
          have K2 := Lib.hid (hk3.box M2.out (by omega) n2.1 n2.2)
          have K3 := Lib.hid (hk3.box M3.out (by omega) n3.1 n3.2)
          have HJ3 := Lib.hid hJ3
          clear hJ3 hk3
          gi_wp2_with fail
          go_roundw
          case rel => exact ⟨k + 1, by omega, by go_num, Lib.hid ⟨_, by rw [nextTo_yes HQ.out, List.map_append, HPre.out]; rfl, HJ3.out⟩, Lib.hid ⟨K1.out, K2.out, K3.out⟩⟩
          case measure => simp [intOf]; omega
        · have HJx3 := Lib.hid hJx3
          clear hJx3
          gi_wp2_with fail
          refine bodyPost_ret (results_none rfl _ _ _) rfl ?_
          exact ⟨⟨_, rfl⟩, .inr ⟨_, ⟨k + 1, by omega, by rw [nextTo_yes HQ.out, List.map_append, HPre.out]; rfl⟩, HJx3.out⟩⟩
    · have hke : k = 6 := by omega
      subst hke
      obtain ⟨pre, hpre, hJp⟩ := HP.out
      have HPre := Lib.hid hpre
      have HJp := Lib.hid hJp
      clear hpre hJp
      gi_wp2_with fail
      go_end0
      exact ⟨⟨_, rfl⟩, .inl ⟨pre, HPre.out, HJp.out⟩⟩
end Go.Proofs.YtonekgefegfapaaGreat
