/-
  WALKS of (reader).start and slices.Clone at []int. Conditions: at most 40 bytes read; at most 1000 letters.
-/
import Derived.Test.YtonekgefegfapaaGreatGe
namespace Go.Proofs.YtonekgefegfapaaGreat
open Go.RowKit

section
variable {P : Program}
theorem wpList_read {ops : Array Oper} {rest : List Oper} {o : Oper} {a : Act} {w : World} {Q : Exit → Act → World → Prop} (v : Value) (hgd : o.guard = none) (h : (execOp a.eval o).run P w = .ok (.value v) w) (hK : wpList P ops Q rest (a.put o.dst v) w) : wpList P ops Q (o :: rest) a w :=
  wpList_plain hgd fun K hK' => by
    unfold Oper.wp
    rw [h]
    exact hK' _ _ hK
theorem wpList_skips {ops : Array Oper} {rest : List Oper} {o : Oper} {a : Act} {w w' : World} {Q : Exit → Act → World → Prop} (hgd : o.guard = none) (h : (execOp a.eval o).run P w = .ok .skip w') (hK : wpList P ops Q rest (a.put o.dst undef) w') : wpList P ops Q (o :: rest) a w :=
  wpList_plain hgd fun K hK' => by
    unfold Oper.wp
    rw [h]
    exact hK' _ _ hK
end
/-- The row before anything was sent. -/
def startN (R : By) (E : Nat) : List Nat := sendN [] R E ((hopeL 41).set 0 0)
theorem start_ok : OkL 1 ((hopeL 41).set 0 0) := by
  refine ⟨by rfl, fun x hx => ?_⟩
  rcases List.mem_or_eq_of_mem_set hx with hx | rfl
  · have : x = 120 := by
      unfold hopeL at hx
      simp at hx
      exact hx
    omega
  · omega
set_option maxRecDepth 100000 in
set_option maxHeartbeats 1000000 in
theorem start_any (A : Option Addr) (n cap : Nat) (read : ByteArray) (E : Nat) (w : World) (hr9 : read.size ≤ 40) :
    Calls Tryz.prog 90 #[.agg #[.slice A n cap, .string read, iv E]] w fun e w' => e = .returned (.agg (rowC (startN read.data.toList E))) ∧ Below w.heap.size w w' := by
  have hi41 : (Tryz.prog.info? 143).map (·.size) = some (rowC (hopeL 41)).size := by rw [rowC_size]; exact info143
  have hi0 : (Tryz.prog.info? 143).map (·.size) = some (rowC ((hopeL 41).set 0 0)).size := by rw [rowC_size]; exact info143
  go_enter Tryz.func90, Tryz.ntmps90
  go_wp2_with fail
  refine (hopeless_any _).mono ?_
  rintro e w1 ⟨rfl, hb⟩
  have b1 : Box w1 w.heap.size 103 #[.slice A n cap, .string read, iv E] := ((Box.new rfl).alloc _).kept hb
  have b2 : Box w1 (w.heap.size + 1) 143 (rowC (hopeL 0)) := (Box.new (by simp)).kept hb
  have HB := Lib.hid (up_later (up_alloc (up_alloc (up0 (w := w)) _) _) hb)
  clear hb
  obtain ⟨R, hR⟩ : ∃ R, rowC (hopeL 41) = R := ⟨_, rfl⟩
  have HR := Lib.hid hR
  have h1R : R.all (·.oneCell') = true := by rw [← hR]; exact rowC_one _
  have hsR : R.size = 41 := by rw [← hR]; rfl
  rw [hR] at hi41 ⊢
  clear hR
  obtain ⟨W2, hW2⟩ : ∃ W2, (w1.alloc (.cells R 143)) = W2 := ⟨_, rfl⟩
  have b3 : Box W2 w1.heap.size 143 R := hW2 ▸ Box.new rfl
  have q0 : W2.cell? ⟨w1.heap.size, 0, none⟩ = some (iv 120) := by rw [b3.cell, ← HR.out]; rfl
  have f0 := b3.free 0
  have hW3 := Lib.hid hW2
  go_upto_region 3 with (refine wpList_store_new rfl 143 (.tmp 3) (.tmp 4) rfl _ R 143 rfl rfl hi41 (by rw [hsR]; rfl) h1R ?_; rw [hW2])
  have hb2 : Below w1.heap.size w1 W2 := hW2 ▸ up_alloc up0 _
  have HB2 := Lib.hid (up_put (up_later HB.out hb2) (p := ⟨w1.heap.size, 0, none⟩) HB.out.size (iv (0 : Nat)))
  have c1 := (b1.kept hb2).far (p := ⟨w1.heap.size, 0, none⟩) (by have := b1.lt; simp only; omega) (iv (0 : Nat))
  have c2 := (b2.kept hb2).far (p := ⟨w1.heap.size, 0, none⟩) (by have := b2.lt; simp only; omega) (iv (0 : Nat))
  have c3 := b3.put 0 (iv (0 : Nat))
  rw [← HR.out, rowC_set] at c3
  clear hb2 q0 f0 hW3 hW2 b1 b2 b3
  obtain ⟨W3, hW3⟩ : ∃ W3, W2.setCell ⟨w1.heap.size, 0, none⟩ (iv (0 : Nat)) = W3 := ⟨_, rfl⟩
  rw [hW3] at HB2 c1 c2 c3
  change (_ : Prop)
  have hW3' : W2.setCell ⟨w1.heap.size, 0, none⟩ (Value.int .i64 0) = W3 := hW3
  rw [hW3']
  have d1 := fun i => c1.cell i
  refine wp_region_lit ?_
  refine wpList_read (.agg #[.slice A n cap, .string read, iv E]) rfl (by go_simp) ?_
  refine wpList_read (.agg (rowC ((hopeL 41).set 0 0))) rfl (exec_load_mid 143 (.tmp 3) rfl w1.heap.size 0 rfl 143 _ _ (0, 0) _ c3 Tryz.underlying143 rfl hi0 (fun j _ => by rw [Nat.zero_add])) ?_
  obtain ⟨V, hV⟩ : ∃ V, rowC ((hopeL 41).set 0 0) = V := ⟨_, rfl⟩
  have HV := Lib.hid hV
  rw [hV]
  clear hV d1
  go_wp2_with fail
  rw [← HV.out]
  refine (send_any A n cap read ⟨#[]⟩ E _ W3 hr9 (by decide) start_ok).mono ?_
  rintro e w4 ⟨rfl, hb4⟩
  have c2' := c2.kept hb4
  have HB4 := Lib.hid (up_later HB2.out hb4)
  have hok : OkL 1 (startN read.data.toList E) := sendN_ok start_ok
  have hiS : (Tryz.prog.info? 143).map (·.size) = some (rowC (startN read.data.toList E)).size := by rw [rowC_size, hok.1]; exact info143
  have hoS : (rowC (hopeL 0)).size = (rowC (startN read.data.toList E)).size := by rw [rowC_size, rowC_size, hok.1]; rfl
  have h1S := rowC_one (startN read.data.toList E)
  have hw := HB4.out.size
  rw [show sendN (⟨#[]⟩ : ByteArray).data.toList read.data.toList E ((hopeL 41).set 0 0) = startN read.data.toList E from rfl]
  obtain ⟨S, hS⟩ : ∃ S, rowC (startN read.data.toList E) = S := ⟨_, rfl⟩
  have HS := Lib.hid hS
  rw [hS] at hiS hoS h1S ⊢
  have B6 := Box.row (cs' := S) c2'
  have HB6 := Lib.hid (below_row HB4.out (g := w.heap.size + 1) (by omega) S)
  clear hS hok
  go_wp2_with (refine wpList_store_row rfl 143 (.tmp 2) (.tmp 8) rfl (w.heap.size + 1) S rfl rfl 143 _ c2' hiS hoS h1S ?_)
  refine bodyPost_ret (v := .agg S) (results_cell rfl rfl B6 Tryz.underlying143 rfl hiS) rfl ⟨by rw [HS.out], HB6.out⟩

set_option maxRecDepth 100000 in
set_option maxHeartbeats 1000000 in
theorem Clone_any (v : Value) (l : List Int) (w : World) (hl : RowsAt w v 1 ic l) :
    Calls Tryz.prog 88 #[v] w fun e w' => ∃ v', e = .returned v' ∧ w'.ownsRow w.heap.size 3 1 v' l.length (l.map fun x => iv x) ∧ Below w.heap.size w w' := by
  obtain ⟨hlen, A, cap, hv, hcap, hmax⟩ := hl.form
  subst hv
  have q25 : ∀ (w : World) (a : Option Addr) (n c n' c' : Nat), (binOp .eql 25 (.slice a n c) (.slice none n' c')).run Tryz.prog w = .ok (.bool a.isNone) w := fun w a n c n' c' => Lib.run_eql_slice_nil w _ _ a n c n' c' Tryz.underlying25
  cases A with
  | none =>
    have hl0 : l = [] := by
      rcases hl with ⟨_, A', cap', h1, _, _, h4⟩
      injection h1 with h1
      subst h1
      rcases l with _ | ⟨x, l⟩
      · rfl
      · obtain ⟨b, off, e, _⟩ := h4 (by simp)
        cases e
    subst hl0
    clear hl
    go_enter Tryz.func88, Tryz.ntmps88
    go_wp2_with fail
    go_ret
    exact ⟨_, rfl, ⟨by simp, .inl ⟨rfl, rfl⟩⟩, up0⟩
  | some ad =>
    obtain ⟨i0, hi0, hz0, hz1, hz2⟩ := info_parts int_info
    have HL := Lib.hid hl
    clear hl
    have und25 := Tryz.underlying25
    go_enter Tryz.func88, Tryz.ntmps88
    go_wp2_with (at_builtin; refine wpList_append_own _ rfl _ _ 25 rfl w.heap.size 3 i0 (.int .i64 0) 1 8 und25 hi0 hz0 hz1 hz2 rfl (by decide) _ _ _ rfl (World.ownsRow_made w #[] 0 (Nat.le_refl _) (Nat.zero_le _) rfl) ad l.length cap (l.map fun x => iv x) rfl (by simp) ?qc2 ?qc3 (by unfold maxLen; omega) (by omega) (by simp) ?_)
    case qc2 =>
      intro j u hj
      rw [List.getElem?_map, Option.map_eq_some_iff] at hj
      obtain ⟨x, hx, rfl⟩ := hj
      obtain ⟨b, off, e, hb, hc⟩ := HL.out.at rfl hx
      injection e with e
      subst e
      have := hc 0 _ rfl
      rw [addr_add]
      exact Lib.cell?_alloc_some _ (by simpa using this)
    case qc3 =>
      intro u hu
      obtain ⟨x, _, rfl⟩ := List.mem_map.1 hu
      rfl
    intro v' w1 hown hgrow hnil
    go_wp2_with fail
    go_ret
    refine ⟨_, rfl, by simpa using hown, ?_⟩
    exact ((Below.refl _ w).alloc (Nat.le_refl _) _).grown hgrow (by simp) (by intro k hk; simp [Value.ownBlock] at hk; omega)
end Go.Proofs.YtonekgefegfapaaGreat
