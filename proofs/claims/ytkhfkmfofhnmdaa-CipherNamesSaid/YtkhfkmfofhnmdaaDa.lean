/-
  THE ITERATOR of '(riddle).agreeing': its rounds get each key of the size that agrees, in order. Conditions: the size is at most 41, the guesses are valid.
-/
import Derived.TacticsInMore
import Derived.LoopNIn
import Derived.LoopIn
import Derived.Shelf.RegionOpen
import Derived.Test.YtkhfkmfofhnmdaaCz
namespace Go.Proofs.Ytkhfkmfofhnmdaa
open Go.RowKit Go.Shelf
attribute [local go_sem] Oper.semAt_some

theorem But.below {l q B : Nat} {W W' : World} (h : But l q W W') (hB : B ≤ W.heap.size) (hl : B ≤ l) (hq : B ≤ q) : Below B W W' := ⟨h.os, h.tape, h.output, h.size, fun i hi => h.block i (by omega) (by omega) (by omega)⟩
theorem TopFrom.set {β : Type} {B : Nat} {I : β → World → Prop} (h : TopFrom B I) {s : β} {W : World} (hs : I s W) {b i : Nat} (u : Value) (hb : B ≤ b) : I s (W.setCell ⟨b, i, none⟩ u) :=
  h s W _ (some b) hs (grownBy_set _ _ _ _) (fun r e => by cases e; exact hb)
theorem TopFrom.low {β : Type} {B : Nat} {I : β → World → Prop} (h : TopFrom B I) {s : β} {W W' : World} (hs : I s W) (hb : Below W.heap.size W W') : I s W' := h s W _ none hs (grown_of_below hb) (by simp)

/-- What is so wherever the keys before number i have come. -/
structure KeysI (J : List Ky → World → Prop) (p : Ky → Bool) (n : Nat) (wA W : World) (Br : Nat) (R : Array Value) (i : Nat) (wr : World) : Prop where
  j : J (agreeing n p i) wr
  low : Below wA.heap.size wA wr
  box : Box wr Br 118 R
  size : W.heap.size ≤ wr.heap.size
section
variable {J : List Ky → World → Prop} {p : Ky → Bool} {n : Nat} {wA W : World} {Br : Nat} {R : Array Value} {i : Nat} {wr w' : World}
theorem KeysI.kept (h : KeysI J p n wA W Br R i wr) (hJ : TopFrom W.heap.size J) (hb : Below wr.heap.size wr w') : KeysI J p n wA W Br R i w' :=
  ⟨hJ.low h.j hb, h.low.trans (hb.mono h.low.size), h.box.kept hb, Nat.le_trans h.size hb.size⟩
theorem KeysI.set {b k : Nat} (u : Value) (h : KeysI J p n wA W Br R i wr) (hJ : TopFrom W.heap.size J) (hb : W.heap.size ≤ b) (hA : wA.heap.size ≤ W.heap.size) (hr : Br < W.heap.size) : KeysI J p n wA W Br R i (wr.setCell ⟨b, k, none⟩ u) :=
  ⟨hJ.set h.j u hb, h.low.setCell (p := ⟨b, k, none⟩) (by simp; omega) u, h.box.far (p := ⟨b, k, none⟩) (by simp; omega) u, by simpa using h.size⟩
theorem KeysI.next (h : KeysI J p n wA W Br R i wr) (hp : p (keyNo n i) = false) : KeysI J p n wA W Br R (i + 1) wr := ⟨by rw [agreeing_no hp]; exact h.j, h.low, h.box, h.size⟩
theorem KeysI.more {l q : Nat} (h : KeysI J p n wA W Br R i wr) (hp : p (keyNo n i) = true) (hj : J (agreeing n p i ++ [keyNo n i]) w') (hb : But l q wr w') (hl : wA.heap.size ≤ l) (hq : wA.heap.size ≤ q) (h1 : Br ≠ l) (h2 : Br ≠ q) : KeysI J p n wA W Br R (i + 1) w' :=
  ⟨by rw [agreeing_yes hp]; exact hj, h.low.trans (hb.below h.low.size hl hq), hb.box h.box h1 h2, Nat.le_trans h.size hb.size⟩
end

set_option maxRecDepth 100000 in
set_option maxHeartbeats 3000000 in
theorem agreeing1_in (m : Nat) (hm : 4 ≤ m) (l Br q n : Nat) (ws : Int) (v1 v2 v3 v4 v5 : Value) (codes : List Int) (gs : List Gs) (wA w0 : World) (hA : Below wA.heap.size wA w0) (hc : IntsAt wA v4 codes) (hg : RowsAt wA v5 2 Gs.cells gs)
    (hn : 2 ≤ n) (hn2 : n ≤ 41) (hin : ∀ x ∈ gs, 0 ≤ x.a ∧ x.a < codes.length ∧ 0 ≤ x.p ∧ x.p ≤ 1000) (hR : Box w0 Br 118 #[iv n, iv ws, v1, v2, v3, v4, v5]) (hrq : Br ≠ q) (hqA : wA.heap.size ≤ q) (hq0 : q < w0.heap.size)
    (J : List Ky → World → Prop) (W : World) (hW : Below w0.heap.size w0 W) (hl0 : w0.heap.size ≤ l) (hl1 : l < W.heap.size) (hJ : TopFrom W.heap.size J)
    (hY : ∀ pre x W1, J pre W1 → pre.length < at3 n (n - 1) 0 0 → YieldAt Fence.wide (m - 1) Try.prog l #[cogV n (undoI x.m n) x] W1 fun e W' => e = .returned (.bool true) ∧ J (pre ++ [x]) W' ∧ But l q W1 W') (h0 : J [] W) :
    CallsIn Fence.wide m Try.prog 114 #[.func (.yield l) #[] #[], .pointer (some ⟨Br, 0, none⟩)] W fun e W' => (∃ v, e = .returned v) ∧ ∃ xs, xs = agreeing n (agreeB n codes gs) (at3 n (n - 1) 0 0) ∧ J xs W' := by
  obtain ⟨_, A4, c4, rfl, _, _⟩ := hc.form
  obtain ⟨_, A5, c5, rfl, _, _⟩ := hg.form
  have hRl := hR.lt
  have hWs := hW.size
  have hAs := hA.size
  have HC := Lib.hid hc
  have HG := Lib.hid hg
  have HI := Lib.hid hin
  have HJ := Lib.hid hJ
  have HY := Lib.hid hY
  have HK : Hid (KeysI J (agreeB n codes gs) n wA W Br #[iv n, iv ws, v1, v2, v3, .slice A4 codes.length c4, .slice A5 gs.length c5] (at3 n 0 0 0) W) :=
    Lib.hid ⟨by simpa [at3, agreeing] using h0, hA.trans (hW.mono hAs), hR.below hW hRl, Nat.le_refl _⟩
  have hzn : (2 : Int) ≤ (n : Int) := by omega
  have hzn2 : (n : Int) ≤ 41 := by omega
  clear hc hg hin hJ hY hR hA hW h0
  refine callsIn_of_wp Try.func114 rfl trivial ?_ rfl
  simp only [Try.ntmps114, List.size_toArray, List.length_cons, List.length_nil, Nat.reduceAdd, Nat.reduceSub, Array.replicate_succ, Array.replicate_zero, List.push_toArray, List.append_toArray, List.nil_append, List.cons_append]
  have bR := HK.out.box
  have cR := fun i => bR.cell i
  gi_wp2_with fail
  clear cR bR
  gi_loopw [12] (fun i wr => ∃ x : Nat, x ≤ n - 1 ∧ i = .int .i64 x ∧ Hid (KeysI J (agreeB n codes gs) n wA W Br #[iv n, iv ws, v1, v2, v3, .slice A4 codes.length c4, .slice A5 gs.length c5] (at3 n x 0 0) wr)) (fun i _ => n - 1 - (intOf i).toNat)
  case atStart => exact ⟨0, by omega, rfl, HK⟩
  case round =>
    clear HK
    obtain ⟨x, hx, rfl, HK⟩ := hrel
    by_cases hlt : x < n - 1
    · have hlt' : (x : Int) < (n : Int) - 1 := by omega
      have bR := HK.out.box
      have cR := fun i => bR.cell i
      gi_wp2_with fail
      refine ⟨trivial, fun _ => by omega, ?_⟩
      refine (callsIn_wide.2 (newCog_any n ⟨(x : Int) + 1, 0, 0⟩ wr (by omega) (by simp only; omega))).mono ?_
      rintro e w1 ⟨rfl, hb1⟩
      obtain ⟨u, hu⟩ : ∃ u, undoI ((x : Int) + 1) n = u := ⟨_, rfl⟩
      have HU := Lib.hid hu
      simp only [hu]
      unfold cogV
      have HK1 := Lib.hid (HK.out.kept HJ.out hb1)
      have hs4 := HK1.out.size
      have bR1 := HK1.out.box
      have bR2 := bR1.alloc (.cells #[iv ((x : Int) + 1), iv 0, iv 0, iv n, iv u] 139)
      have cR1 := fun i => bR1.cell i
      have cR2 := fun i => bR2.cell i
      have lR1 := bR1.lt
      clear cR bR hu
      gi_wp2_with fail
      have HK2 := Lib.hid (HK1.out.kept HJ.out ((Below.refl _ w1).alloc (Nat.le_refl _) (.cells #[iv ((x : Int) + 1), iv 0, iv 0, iv n, iv u] 139)))
      have B4 : Box _ w1.heap.size 139 #[iv ((x : Int) + 1), iv 0, iv 0, iv n, iv u] := Box.new (w := w1) rfl
      clear cR1 cR2 bR1 bR2 HK HK1
      obtain ⟨n4, hn4⟩ : ∃ n4, w1.heap.size = n4 := ⟨_, rfl⟩
      rw [hn4] at hs4 lR1 B4 ⊢
      clear hn4
      have hRn : Br ≠ n4 := by omega
      have hnR : n4 ≠ Br := by omega
      have hln : n4 ≠ l := by omega
      have hqn : n4 ≠ q := by omega
      gi_loopw [27] (fun i wr => ∃ y : Nat, y ≤ n ∧ i = .int .i64 y ∧ Hid (KeysI J (agreeB n codes gs) n wA W Br #[iv n, iv ws, v1, v2, v3, .slice A4 codes.length c4, .slice A5 gs.length c5] (at3 n x y 0) wr) ∧ ∃ A S, Box wr n4 139 #[iv ((x : Int) + 1), iv A, iv S, iv n, iv u]) (fun i _ => n - (intOf i).toNat)
      case atStart => exact ⟨0, by omega, rfl, HK2, _, _, B4⟩
      case round =>
        clear HK2 B4
        obtain ⟨y, hy, rfl, HK, A, S, B4⟩ := hrel
        have bR := HK.out.box
        have cR := fun i => bR.cell i
        by_cases hlty : y < n
        · have hlty' : (y : Int) < (n : Int) := by omega
          gi_wp2_with fail
          clear cR bR
          gi_loopw [34] (fun i wr => ∃ z : Nat, z ≤ n ∧ i = .int .i64 z ∧ Hid (KeysI J (agreeB n codes gs) n wA W Br #[iv n, iv ws, v1, v2, v3, .slice A4 codes.length c4, .slice A5 gs.length c5] (at3 n x y z) wr) ∧ ∃ A S, Box wr n4 139 #[iv ((x : Int) + 1), iv A, iv S, iv n, iv u]) (fun i _ => n - (intOf i).toNat)
          case atStart => exact ⟨0, by omega, rfl, HK, _, _, B4⟩
          case round =>
            clear HK B4
            obtain ⟨z, hz, rfl, HK, A, S, B4⟩ := hrel
            by_cases hltz : z < n
            · have hltz' : (z : Int) < (n : Int) := by omega
              have HKs := Lib.hid ((HK.out.set (b := n4) (k := 1) (iv (y : Int)) HJ.out hs4 (by omega) (by omega)).set (b := n4) (k := 2) (iv (z : Int)) HJ.out hs4 (by omega) (by omega))
              have B4s : Box ((wr.setCell ⟨n4, 1, none⟩ (iv (y : Int))).setCell ⟨n4, 2, none⟩ (iv (z : Int))) n4 139 #[iv ((x : Int) + 1), iv (y : Int), iv (z : Int), iv n, iv u] := by simpa using ((B4.put 1 (iv (y : Int))).put 2 (iv (z : Int)))
              have bR := HKs.out.box
              have cR := fun i => bR.cell i
              have c4s := fun i => B4s.cell i
              have c4 := fun i => B4.cell i
              have f4 := fun i => B4.free i
              have l4 := B4.lt
              gi_wp2_with fail
              refine ⟨trivial, fun _ => by omega, ?_⟩
              refine (callsIn_wide.2 (agrees_any n u ws ⟨(x : Int) + 1, y, z⟩ v1 v2 v3 _ _ codes gs _ (HC.out.kept HKs.out.low) (HG.out.kept HKs.out.low) (by omega) ⟨by simp only; omega, by simp only; omega, by simp only; omega⟩ HI.out)).mono ?_
              rintro e w2 ⟨rfl, hb2⟩
              have HKey := Lib.hid (keyNo_at (x := x) hlty hltz)
              have HK2 := Lib.hid (HKs.out.kept HJ.out hb2)
              have B42 := B4s.kept hb2
              have c42 := fun i => B42.cell i
              clear cR bR c4s c4 f4 l4 B4s B4 HKs HK hb2
              cases hag : agreeB n codes gs ⟨(x : Int) + 1, y, z⟩ with
              | false =>
                have HAg := Lib.hid hag
                clear hag
                gi_wp2_with fail
                refine ⟨fun _ h => (by cases h), ?_⟩
                gi_wp2_with fail
                go_roundw
                case rel => exact ⟨z + 1, by omega, by go_num, by rw [← at3_z]; exact HK2.out.next (by rw [HKey.out]; exact HAg.out), _, _, B42⟩
                case measure => simp [intOf]; omega
              | true =>
                have HAg := Lib.hid hag
                obtain ⟨fn, tmps, assign, body, hy, hround⟩ := HY.out _ ⟨(x : Int) + 1, y, z⟩ w2 HK2.out.j (Nat.lt_of_le_of_lt (agreeing_len _ _ _) (at3_lt hlt hlty hltz))
                simp only [cogV, HU.out] at hy
                have Hr := Lib.hid hround
                clear hround hag
                gi_wp2_with fail
                refine ⟨fun _ => by omega, ?_⟩
                refine Hr.out.mono ?_
                rintro e W3 ⟨rfl, hJ3, hBut⟩
                clear c42
                have B43 := hBut.box B42 hln hqn
                have HJ3 := Lib.hid hJ3
                have HB3 := Lib.hid hBut
                clear hJ3 hBut B42
                gi_wp2_with fail
                go_roundw
                case rel => exact ⟨z + 1, by omega, by go_num, by rw [← at3_z]; exact HK2.out.more (by rw [HKey.out]; exact HAg.out) (by rw [HKey.out]; exact HJ3.out) HB3.out (by omega) hqA (by omega) hrq, _, _, B43⟩
                case measure => simp [intOf]; omega
            · have hze : z = n := by omega
              subst hze
              gi_wp2_with fail
              go_roundw
              case rel => exact ⟨y + 1, by omega, by go_num, by rw [← at3_y]; exact HK, _, _, B4⟩
              case measure => simp [intOf]; omega
        · have hye : y = n := by omega
          subst hye
          gi_wp2_with fail
          go_roundw
          case rel => exact ⟨x + 1, by omega, by go_num, by rw [← at3_x]; exact HK⟩
          case measure => simp [intOf]; omega
    · have hxe : x = n - 1 := by omega
      subst hxe
      gi_wp2_with fail
      go_end0
      exact ⟨⟨_, rfl⟩, _, rfl, HK.out.j⟩

/-- **agreeing's value**: the keys that agree, in order. -/
theorem agreeing_top (m : Nat) (hm : 4 ≤ m) (Br q n : Nat) (ws : Int) (v1 v2 v3 v4 v5 : Value) (codes : List Int) (gs : List Gs) (wA w0 : World) (hA : Below wA.heap.size wA w0) (hc : IntsAt wA v4 codes) (hg : RowsAt wA v5 2 Gs.cells gs)
    (hn : 2 ≤ n) (hn2 : n ≤ 41) (hin : ∀ x ∈ gs, 0 ≤ x.a ∧ x.a < codes.length ∧ 0 ≤ x.p ∧ x.p ≤ 1000) (hR : Box w0 Br 118 #[iv n, iv ws, v1, v2, v3, v4, v5]) (hrq : Br ≠ q) (hqA : wA.heap.size ≤ q) (hq0 : q < w0.heap.size) :
    SeqTop Fence.wide m Try.prog 114 #[.pointer (some ⟨Br, 0, none⟩)] (fun x : Ky => #[cogV n (undoI x.m n) x]) q (fun xs => xs = agreeing n (agreeB n codes gs) (at3 n (n - 1) 0 0)) (at3 n (n - 1) 0 0) w0 := fun l J W hW hl0 hl1 hJ hY h0 =>
  agreeing1_in m hm l Br q n ws v1 v2 v3 v4 v5 codes gs wA w0 hA hc hg hn hn2 hin hR hrq hqA hq0 J W hW hl0 hl1 hJ hY h0

end Go.Proofs.Ytkhfkmfofhnmdaa
