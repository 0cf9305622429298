/-
  WALKS of (Code).signs and Send; strings.Builder's String by the library's contract. Conditions of signs: at most 1000 letters, each of the code; flashes of at most 4 signs.
-/
import Derived.Test.YtonekgefegfapaaGreatFt
namespace Go.Proofs.YtonekgefegfapaaGreat
open Go.RowKit Go.Shelf

def renS : Go.Shelf.Ren := ⟨fun | 169 => 79 | n => n, fun | 70 => 113 | 9 => 9 | 0 => 0 | 72 => 115 | 37 => 65 | 127 => 155 | 3 => 3 | 5 => 5 | n => n, fun | n => n⟩
theorem laysS : Go.Proofs.Lays.n169 Tryz.prog renS := {
  mixed := by kernel_rfl
  f169 := Tryz.func79.trans (congrArg some (by kernel_rfl))
  t0 := Tryz.underlying0
  a0 := Tryz.isAgg0
  z0 := Tryz.sizeOf0
  v0 := Tryz.zeroValue0
  t3 := Tryz.underlying3
  a3 := Tryz.isAgg3
  z3 := Tryz.sizeOf3
  v3 := Tryz.zeroValue3
  t9 := Tryz.underlying9
  a9 := Tryz.isAgg9
  z9 := Tryz.sizeOf9
  v9 := Tryz.zeroValue9
  t37 := Tryz.underlying65
  a37 := Tryz.isAgg65
  z37 := Tryz.sizeOf65
  v37 := Tryz.zeroValue65
  t70 := Tryz.underlying113
  a70 := Tryz.isAgg113
  z70 := Tryz.sizeOf113
  v70 := Tryz.zeroValue113
  t72 := Tryz.underlying115
  a72 := Tryz.isAgg115
  z72 := Tryz.sizeOf115
  v72 := Tryz.zeroValue115
  t127 := Tryz.underlying155
  a127 := Tryz.isAgg155
  z127 := Tryz.sizeOf155
  v127 := Tryz.zeroValue155 }
theorem extraS : Builder.Extra Tryz.prog renS := {
  sizeBuilder := by kernel_rfl
  liesBuilder := by kernel_rfl
  t5 := Tryz.underlying5
  a5 := Tryz.isAgg5
  z5 := Tryz.sizeOf5
  v5 := Tryz.zeroValue5
  infoByte := by kernel_rfl
  cellsByte := by kernel_rfl
  sizeByte := by kernel_rfl
  neB5 := by decide }
theorem String_any (B b : Nat) (l : List UInt8) (w : World) (h : Lib.IsBuilder 115 5 B b (Lib.byteCells l) w) (hBw : B ≤ w.heap.size) : Calls Tryz.prog 79 #[.pointer (some ⟨b, 0, none⟩)] w fun e w' => e = .returned (.string ⟨l.toArray⟩) ∧ Below B w w' :=
  Any.Builder_String_any laysS extraS B b l w h hBw
theorem isB_kept {B b : Nat} {bs : List Value} {w w' : World} (h : Lib.IsBuilder 115 5 B b bs w) (hb : Below w.heap.size w w') : Lib.IsBuilder 115 5 B b bs w' := by
  rcases h with ⟨h1, v, h2, h3, h4⟩ | ⟨h1, v, h2, h3, h4⟩
  · exact .inl ⟨h1, v, (hb.block b (Array.getElem?_eq_some_iff.1 h2).1).trans h2, own_below h3 hb, h4⟩
  · exact .inr ⟨h1, v, (hb.block b (Array.getElem?_eq_some_iff.1 h2).1).trans h2, own_below h3 hb, h4⟩
/-- The signs of a text's first letters. -/
def sgnF (l : List ByteArray) (t : List Int) (n : Nat) : By := (List.range n).flatMap fun i => (addS l (t.getD i 0).toNat (i == 0)).data.toList
def sgnI (l : List ByteArray) (t : List Int) : By := sgnF l t t.length
theorem sgnF_succ (l : List ByteArray) (t : List Int) (n : Nat) : sgnF l t (n + 1) = sgnF l t n ++ (addS l (t.getD n 0).toNat (n == 0)).data.toList := by
  unfold sgnF
  rw [List.range_succ, List.flatMap_append]
  simp
theorem addS_size {l : List ByteArray} (h4 : ∀ s ∈ l, s.size ≤ 4) (x : Nat) (f : Bool) : (addS l x f).size ≤ 5 := by
  have h : (l.getD x ⟨#[]⟩).size ≤ 4 := by
    rw [List.getD_eq_getElem?_getD]
    cases hx : l[x]? with
    | none => exact Nat.zero_le _
    | some y => exact h4 y (List.mem_of_getElem? hx)
  unfold addS
  split
  · omega
  · rw [ByteArray.size_append]
    have : (⟨#[32]⟩ : ByteArray).size = 1 := rfl
    omega
theorem sgnF_len {l : List ByteArray} (h4 : ∀ s ∈ l, s.size ≤ 4) (t : List Int) (n : Nat) : (sgnF l t n).length ≤ 5 * n := by
  induction n with
  | zero => simp [sgnF]
  | succ n ih =>
    rw [sgnF_succ, List.length_append]
    have := addS_size h4 (t.getD n 0).toNat (n == 0)
    rw [Lib.size_eq] at this
    omega
set_option maxRecDepth 100000 in
set_option maxHeartbeats 1500000 in
theorem signs_any (v u : Value) (l : List ByteArray) (t : List Int) (w : World) (hl : RowsAt w v 1 sc l) (ht : RowsAt w u 1 ic t) (h4 : ∀ s ∈ l, s.size ≤ 4) (hx : ∀ x ∈ t, letB l.length x = true) :
    Calls Tryz.prog 55 #[.agg #[v], u] w fun e w' => e = .returned (.string ⟨(sgnI l t).toArray⟩) ∧ Below w.heap.size w w' := by
  obtain ⟨hlen, A, cap, hv, -, -⟩ := ht.form
  subst hv
  have HT := Lib.hid ht
  have HL := Lib.hid hl
  have H4 := Lib.hid h4
  have HX := Lib.hid hx
  clear ht hl h4 hx
  obtain ⟨-, A2, cap2, hv2, -, -⟩ := HL.out.form
  subst hv2
  go_enter Tryz.func55, Tryz.ntmps55
  go_wp2_with fail
  go_loopw [10] (fun i wr => ∃ k : Nat, k ≤ t.length ∧ i = iv k ∧ Hid (Lib.IsBuilder 115 5 (w.heap.size + 1) (w.heap.size + 1) (Lib.byteCells (sgnF l t k)) wr) ∧ Hid (Box wr w.heap.size 30 #[.slice A2 l.length cap2]) ∧ w.heap.size + 1 ≤ wr.heap.size ∧ Below w.heap.size w wr) (fun i _ => t.length - (intOf i).toNat)
  case atStart =>
    refine ⟨0, by omega, rfl, Lib.hid (.inl ⟨Nat.le_refl _, .slice none 0 0, ?_, ⟨by simp [sgnF, Lib.byteCells], .inl ⟨rfl, by simp [sgnF, Lib.byteCells]⟩⟩, by simp [Value.ownBlock]⟩), Lib.hid ((Box.new rfl).alloc _), by simp, up_alloc (up_alloc up0 _) _⟩
    exact Box.new (w := w.alloc (.cells #[.slice A2 l.length cap2] 30)) (g := w.heap.size + 1) (by simp)
  case round =>
    obtain ⟨k, hk, rfl, HI, HB3, hsz, hB⟩ := hrel
    by_cases hlt : k < t.length
    · obtain ⟨x, hx⟩ : ∃ x, t[k]? = some x := ⟨_, List.getElem?_eq_getElem hlt⟩
      obtain ⟨b, off, rfl, hb, hc⟩ := (HT.out.kept hB).at rfl hx
      have hxl := HX.out x (List.mem_of_getElem? hx)
      unfold letB at hxl
      have hx0 : 0 ≤ x ∧ x < (l.length : Int) := by simpa using hxl
      obtain ⟨n, rfl⟩ : ∃ n : Nat, x = n := ⟨x.toNat, by omega⟩
      have hn : n < l.length := by omega
      have q0 : wr.cell? ⟨b, off + k, none⟩ = some (.int .i64 n) := by simpa using hc 0 _ rfl
      have Hs := Lib.hid (show sgnF l t (k + 1) = sgnF l t k ++ (addS l n (k == 0)).data.toList by
        rw [sgnF_succ, List.getD_eq_getElem?_getD, hx]
        rfl)
      have hlen5 := sgnF_len H4.out t k
      have hs5 := addS_size H4.out n (k == 0)
      have hk0 : ((k : Int) == 0) = (k == 0) := by
        cases k with
        | zero => rfl
        | succ k =>
          rw [show (k + 1 == 0) = false from rfl, beq_eq_false_iff_ne]
          omega
      obtain ⟨fb, hfb⟩ : ∃ fb, (k == 0) = fb := ⟨_, rfl⟩
      rw [hfb] at hk0 hs5
      have Hfb := Lib.hid hfb
      have B3 := HB3.out
      have c3 := fun i => B3.cell i
      clear hx hc hxl hx0 hfb
      go_wp2_with fail
      refine (added_any (.slice A2 l.length cap2) l n fb wr (HL.out.kept hB) hn H4.out).mono ?_
      rintro e w1 ⟨rfl, hb1⟩
      have hz1 := hb1.size
      have HI1 := Lib.hid (isB_kept HI.out hb1)
      have B31 := HB3.out.kept hb1
      have hB1 := up_later hB hb1
      clear c3
      go_wp2_with fail
      refine (WriteString_any (w.heap.size + 1) (w.heap.size + 1) (Lib.byteCells (sgnF l t k)) (addS l n fb) w1 HI1.out (by rw [Lib.byteCells_length]; omega) (by omega)).mono ?_
      rintro e w2 ⟨rfl, hA, hb2⟩
      have HA : Hid (Lib.IsBuilder 115 5 (w.heap.size + 1) (w.heap.size + 1) (Lib.byteCells (sgnF l t (k + 1))) w2) := Lib.hid (.inr (by
        rw [Hs.out, Lib.byteCells_append, Hfb.out]
        exact hA))
      have B32 : Box w2 w.heap.size 30 #[.slice A2 l.length cap2] := (hb2.block _ (by omega)).trans B31
      have hB2 : Below w.heap.size w w2 := hB1.trans (hb2.mono (by omega))
      have hz2 := hb2.size
      clear hA hb2
      go_wp2_with fail
      go_roundw
      case rel => exact ⟨k + 1, by omega, by go_num, HA, Lib.hid B32, by omega, hB2⟩
      case measure => simp [intOf]; omega
    · have HI' : Hid (Lib.IsBuilder 115 5 (w.heap.size + 1) (w.heap.size + 1) (Lib.byteCells (sgnI l t)) wr) := Lib.hid (by
        have h := HI.out
        rw [show k = t.length by omega] at h
        exact h)
      go_wp2_with fail
      refine (String_any (w.heap.size + 1) (w.heap.size + 1) (sgnI l t) wr HI'.out hsz).mono ?_
      rintro e w2 ⟨rfl, hb2⟩
      have hB2 : Below w.heap.size w w2 := hB.trans (hb2.mono (by omega))
      clear hb2
      go_wp2_with fail
      go_ret
      exact ⟨rfl, hB2⟩
end Go.Proofs.YtonekgefegfapaaGreat
