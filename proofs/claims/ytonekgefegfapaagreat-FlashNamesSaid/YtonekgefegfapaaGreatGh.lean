/-
  WALK of the closure of (reader).texts: all texts that begin with one are found. Conditions: a code of at most 6 letters of at most 4 bytes; at most 40 bytes read.
-/
import Derived.Test.YtonekgefegfapaaGreatGg
namespace Go.Proofs.YtonekgefegfapaaGreat
open Go.RowKit

/-- What the closure captures. -/
structure Cap (w : World) (B gN gR gF gL gA : Nat) (vl : Value) (l : List ByteArray) (read : ByteArray) (E K : Nat) (W : World) : Prop where
  bN : Box W gN 143 (rowC (hopeL 41))
  bR : Box W gR 103 #[vl, .string read, iv E]
  bL : Box W gL 3 #[iv K]
  bA : Box W gA 145 #[.func (.func 87) #[] #[.pointer (some ⟨gN, 0, none⟩), .pointer (some ⟨gR, 0, none⟩), .pointer (some ⟨gF, 0, none⟩), .pointer (some ⟨gL, 0, none⟩), .pointer (some ⟨gA, 0, none⟩)]]
  gr : Below w.heap.size w W
  hl : RowsAt w vl 1 sc l
  hwB : w.heap.size ≤ B
  hB : B ≤ gF
section
variable {w W W' : World} {B gN gR gF gL gA E K : Nat} {vl : Value} {l : List ByteArray} {read : ByteArray}
theorem Cap.kept (h : Cap w B gN gR gF gL gA vl l read E K W) (hb : Below W.heap.size W W') : Cap w B gN gR gF gL gA vl l read E K W' :=
  ⟨h.bN.kept hb, h.bR.kept hb, h.bL.kept hb, h.bA.kept hb, up_later h.gr hb, h.hl, h.hwB, h.hB⟩
theorem Cap.add (h : Cap w B gN gR gF gL gA vl l read E K W) (hk : AddK B gF W W') {v : Value} (hF : Box W gF 50 #[v]) : Cap w B gN gR gF gL gA vl l read E K W' := by
  have ne : ∀ {g t : Nat} {cs : Array Value}, Box W g t cs → t ≠ 50 → g ≠ gF := fun hb ht e => hb.neq (p := ⟨gF, 0, none⟩) hF ht e
  exact ⟨hk.box h.bN (by decide) (ne h.bN (by decide)), hk.box h.bR (by decide) (ne h.bR (by decide)), hk.box h.bL (by decide) (ne h.bL (by decide)), hk.box h.bA (by decide) (ne h.bA (by decide)), hk.below h.hB h.hwB h.gr, h.hl, h.hwB, h.hB⟩
end
theorem ic_flat (t : List Int) : t.flatMap ic = t.map fun x => iv x := by
  induction t with
  | nil => rfl
  | cons x t ih => rw [List.flatMap_cons, ih]; rfl
/-- A text of the call's own is a list that came in. -/
theorem text_rows {W : World} {B : Nat} {v : Value} {t : List Int} (h : W.ownsRow B 3 1 v t.length (t.map fun x => iv x)) (hl : t.length ≤ 1000) : RowsAt W v 1 ic t :=
  rows_of_own (by rw [ic_flat]; exact h) rfl (fun _ => rfl) hl
theorem own_apart {W : World} {b1 b2 e1 e2 z1 z2 n1 n2 : Nat} {v1 v2 : Value} {x1 x2 : List Value} (h1 : W.ownsRow b1 e1 z1 v1 n1 x1) (h2 : W.ownsRow b2 e2 z2 v2 n2 x2) (he : e1 ≠ e2) : v1.ownBlock = none ∨ v1.ownBlock ≠ v2.ownBlock := by
  rcases h1.2 with ⟨rfl, _⟩ | ⟨g, cap, cur, rfl, _, hg, _⟩
  · exact .inl rfl
  · rcases h2.2 with ⟨rfl, _⟩ | ⟨g', cap', cur', rfl, _, hg', _⟩
    · exact .inr (by simp [Value.ownBlock])
    · refine .inr fun e => he ?_
      obtain rfl := Option.some.inj e
      rw [hg] at hg'
      injection hg' with hg'
      injection hg'
theorem own_new {W W0 : World} {e z n : Nat} {v u : Value} {x : List Value} {base : Nat} (h : W.ownsRow base e z v n x) (hr : ∀ b, u.ownBlock = some b → b < W0.heap.size) (hb : W0.heap.size ≤ base) : v.ownBlock = none ∨ v.ownBlock ≠ u.ownBlock := by
  cases hv : v.ownBlock with
  | none => exact .inl rfl
  | some b =>
    refine .inr fun e => ?_
    have h1 := (h.lt b hv).1
    have h2 := hr b e.symm
    omega
def FactR.ownC (row : Option Nat) (B n : Nat) (xs : List Value) : FactR row := ⟨fun v w => w.ownsRow B 3 1 v n xs ∧ (v.ownBlock = none ∨ v.ownBlock ≠ row), fun _ _ _ ⟨h, hn⟩ hg => ⟨h.kept hg hn, hn⟩⟩
def FactR.slC (row : Option Nat) (B n : Nat) (xs : List Value) : FactR row := ⟨fun v w => ∃ g vc, v = .slice (some ⟨g, 0, none⟩) 1 1 ∧ Box w g 25 #[vc] ∧ some g ≠ row ∧ w.ownsRow B 3 1 vc n xs ∧ (vc.ownBlock = none ∨ vc.ownBlock ≠ row),
  fun _ _ _ ⟨g, vc, h, hb, hn, ho, hn2⟩ hg => ⟨g, vc, h, hb.grown hg hn, hn, ho.kept hg hn2, hn2⟩⟩
/-- found = append(found, Clone(text)). -/
def AppF (B : Nat) (vF : Value) (n : Nat) (vs : List Value) (k : Nat) (xs : List Value) (v : Value) (wt w1 : World) : Prop :=
  ∃ vc, wt.ownsRow B 3 1 vc k xs ∧ (vc.ownBlock = none ∨ vc.ownBlock ≠ vF.ownBlock) ∧ wt.grownBy w1 vF.ownBlock ∧ w1.ownsRow B 25 1 v (n + 1) (vs ++ [vc])
theorem appF_grown {B : Nat} {vF : Value} {n : Nat} {vs : List Value} {k : Nat} {xs : List Value} : ∀ v a b, AppF B vF n vs k xs v a b → a.grownBy b vF.ownBlock := fun _ _ _ ⟨_, _, _, h, _⟩ => h
theorem own_formN {w : World} {n0 e sz n : Nat} {v : Value} {xs : List Value} (h : w.ownsRow n0 e sz v n xs) : ∃ A p, v = .slice A n p := by
  rcases h.2 with ⟨rfl, rfl⟩ | ⟨g, cap, cur, rfl, _⟩
  · exact ⟨_, _, rfl⟩
  · exact ⟨_, _, rfl⟩
theorem AddK.app {B gF n : Nat} {vF : Value} {us : List Value} {wt w1 : World} (h : wt.ownsRow B 25 1 vF n us) (hg : wt.grownBy w1 vF.ownBlock) : AddK B gF wt w1 :=
  ⟨hg.os, hg.tape, hg.output, hg.size, fun k o ho _ h2 => by
    refine (hg.block k (Array.getElem?_eq_some_iff.1 ho).1 fun e => ?_).trans ho
    rcases h.2 with ⟨rfl, _⟩ | ⟨g, cap, cur, rfl, hb, hgg, _⟩
    · cases e
    · obtain rfl := Option.some.inj e
      rw [hgg] at ho
      cases ho
      exact h2 hb cur (0, 0) rfl⟩
theorem AddK.set {B gF : Nat} (W : World) (v : Value) : AddK B gF W (W.setCell ⟨gF, 0, none⟩ v) :=
  ⟨rfl, rfl, rfl, by simp, fun k _ ho h1 _ => (Below.heap_setCell W ⟨gF, 0, none⟩ v k h1).trans ho⟩
theorem Fnd.app {B gF : Nat} {W1 wt w1 wz : World} {vF v : Value} {us : List Value} {fs : List (List Int)} {t : List Int} (bF : Box W1 gF 50 #[vF]) (oF : W1.ownsRow B 25 1 vF fs.length us)
    (eF : ∀ (i : Nat) (v : Value) (t : List Int), us[i]? = some v → fs[i]? = some t → W1.ownsRow B 3 1 v t.length (t.map fun x => iv x)) (hwt : Below W1.heap.size W1 wt) (hA : AppF B vF fs.length us t.length (t.map fun x => iv x) v wt w1) (hwz : Below w1.heap.size w1 wz) :
    Fnd B gF (wz.setCell ⟨gF, 0, none⟩ v) (fs ++ [t]) ∧ AddK B gF W1 (wz.setCell ⟨gF, 0, none⟩ v) ∧ Box wz gF 50 #[vF] := by
  obtain ⟨vc, oC, xC, hg, oV⟩ := hA
  have bz : Box wz gF 50 #[vF] := ((bF.kept hwt).grown hg (box_not_own (bF.kept hwt) (by decide) (own_below oF hwt))).kept hwz
  have last : ∀ {e n : Nat} {u : Value} {xs : List Value}, wz.ownsRow B e 1 u n xs → e ≠ 50 → (wz.setCell ⟨gF, 0, none⟩ v).ownsRow B e 1 u n xs := fun ho he => ho.kept (grownBy_set wz gF 0 v) (.inr (Ne.symm (box_not_own bz (Ne.symm he) ho)))
  have hlu : us.length = fs.length := by have := oF.1; omega
  refine ⟨⟨v, us ++ [vc], Box.put1 bz, ?_, fun i u t' hu ht => ?_⟩, (AddK.of_below hwt).trans ((AddK.app (own_below oF hwt) hg).trans ((AddK.of_below hwz).trans (AddK.set wz v))), bz⟩
  · rw [List.length_append]
    exact last (own_below oV hwz) (by decide)
  · by_cases hi : i < fs.length
    · rw [List.getElem?_append_left (by omega)] at hu ht
      have o1 := own_below (eF i u t' hu ht) hwt
      exact last (own_below (o1.kept hg (own_apart o1 (own_below oF hwt) (by decide))) hwz) (by decide)
    · rw [List.getElem?_append_right (by omega)] at hu ht
      have hi0 : i - fs.length = 0 := by
        have := (List.getElem?_eq_some_iff.1 ht).1
        simp at this
        omega
      rw [hlu, hi0] at hu
      rw [hi0] at ht
      obtain rfl : vc = u := by simpa using hu
      obtain rfl : t = t' := by simpa using ht
      exact last (own_below (oC.kept hg xC) hwz) (by decide)
theorem addF_zero {l : List ByteArray} {R : By} {E : Nat} {t : List Int} {r : List Nat} (hh : r ≠ hopeL 41) : addF l R E 0 t r = if r.getD R.length 120 ≠ 120 then [t] else [] := by
  unfold addF
  rw [if_neg hh]
theorem addF_succ {l : List ByteArray} {R : By} {E f : Nat} {t : List Int} {r : List Nat} (hh : r ≠ hopeL 41) : addF l R E (f + 1) t r = (if r.getD R.length 120 ≠ 120 then [t] else []) ++ (List.range l.length).flatMap fun i : Nat => addF l R E f (t ++ [(i : Int)]) (sendN (kidB l t i).data.toList R E r) := by
  rw [addF, if_neg hh]
theorem kids_len {l : List ByteArray} (hl : l.length ≤ 6) (R : By) (E f : Nat) (t : List Int) (r : List Nat) : ∀ n, ((List.range n).flatMap fun i : Nat => addF l R E f (t ++ [(i : Int)]) (sendN (kidB l t i).data.toList R E r)).length ≤ n * 7 ^ f
  | 0 => by simp
  | n + 1 => by
    rw [List.range_succ, List.flatMap_append, List.length_append]
    have := addF_len l hl R E f (t ++ [(n : Int)]) (sendN (kidB l t n).data.toList R E r)
    have := kids_len hl R E f t r n
    simp only [List.flatMap_cons, List.flatMap_nil, List.append_nil]
    rw [Nat.succ_mul]
    omega
theorem gives_read {P : Program} {o : Oper} {ρ : Operand → Value} {w : World} {v : Value} {K : Value → World → Prop} (h : (execOp ρ o).run P w = .ok (.value v) w) (hK : K v w) : gives P K ((execOp ρ o).run P w) := by rw [h]; exact hK
theorem slice_info : (Tryz.prog.info? 25).map (fun i => (i.zero, i.size, i.bytes)) = some (some (.slice none 0 0), 1, 24) := by kernel_rfl
set_option maxRecDepth 100000 in
set_option maxHeartbeats 2000000 in
theorem add_step (w : World) (B gN gR gF gL gA : Nat) (vl : Value) (l : List ByteArray) (read : ByteArray) (E K : Nat) (hr9 : read.size ≤ 40) (hl6 : l.length ≤ 6) (h4 : ∀ s ∈ l, s.size ≤ 4) (hK : K ≤ 5)
    (f : Nat) (ih : ∀ (f' : Nat), f' < f → ∀ (t : List Int) (r : List Nat) (vt : Value) (fs : List (List Int)) (W : World), t.length + f' = K → OkL 1 r → W.ownsRow B 3 1 vt t.length (t.map fun x => iv x) → Cap w B gN gR gF gL gA vl l read E K W → Fnd B gF W fs → fs.length + 7 ^ f' ≤ 20000 →
      Calls Tryz.prog 87 #[vt, .agg (rowC r), .pointer (some ⟨gN, 0, none⟩), .pointer (some ⟨gR, 0, none⟩), .pointer (some ⟨gF, 0, none⟩), .pointer (some ⟨gL, 0, none⟩), .pointer (some ⟨gA, 0, none⟩)] W fun e W' => e = .returned (.tuple #[]) ∧ Fnd B gF W' (fs ++ addF l read.data.toList E f' t r) ∧ AddK B gF W W')
    (t : List Int) (r : List Nat) (vt : Value) (fs : List (List Int)) (W : World) (htf : t.length + f = K) (hr : OkL 1 r) (ht : W.ownsRow B 3 1 vt t.length (t.map fun x => iv x)) (hC : Cap w B gN gR gF gL gA vl l read E K W) (hF : Fnd B gF W fs) (hn : fs.length + 7 ^ f ≤ 20000) :
    Calls Tryz.prog 87 #[vt, .agg (rowC r), .pointer (some ⟨gN, 0, none⟩), .pointer (some ⟨gR, 0, none⟩), .pointer (some ⟨gF, 0, none⟩), .pointer (some ⟨gL, 0, none⟩), .pointer (some ⟨gA, 0, none⟩)] W fun e W' => e = .returned (.tuple #[]) ∧ Fnd B gF W' (fs ++ addF l read.data.toList E f t r) ∧ AddK B gF W W' := by
  have h7 : 1 ≤ 7 ^ f := Nat.one_le_pow _ _ (by decide)
  have hsr : (Tryz.prog.info? 143).map (·.size) = some (rowC r).size := by rw [rowC_size, hr.1]; exact info143
  have hsh : (Tryz.prog.info? 143).map (·.size) = some (rowC (hopeL 41)).size := by rw [rowC_size]; exact info143
  have HIH := Lib.hid ih
  have HT := Lib.hid ht
  have HC := Lib.hid hC
  have HF := Lib.hid hF
  have heq := fun w => run_eql_row (P := Tryz.prog) w 143 3 41 Tryz.underlying143 Tryz.underlying3 (fun w => by kernel_rfl) r (hopeL 41) (by rw [hr.1]) rfl
  obtain ⟨A, p, rfl⟩ := own_formN ht
  obtain ⟨-, AL, capL, rfl, -, -⟩ := hC.hl.form
  clear ih ht hC hF
  have hb1 : Box (W.alloc (.cells (rowC r) 143)) W.heap.size 143 (rowC r) := Box.new rfl
  have bN := HC.out.bN.alloc (.cells (rowC r) 143)
  go_enter Tryz.func87, Tryz.ntmps87
  go_upto_region 1 with fail
  refine wp_region_lit ?_
  refine wpList_read (.agg (rowC r)) rfl (exec_load_mid 143 (.tmp 8) rfl W.heap.size 0 rfl 143 _ _ (0, 0) _ hb1 Tryz.underlying143 rfl hsr (fun j _ => by rw [Nat.zero_add])) ?_
  refine wpList_read (.agg (rowC (hopeL 41))) rfl (exec_load_mid 143 (.tmp 2) rfl gN 0 rfl 143 _ _ (0, 0) _ bN Tryz.underlying143 rfl hsh (fun j _ => by rw [Nat.zero_add])) ?_
  obtain ⟨H41, hH⟩ : ∃ H, rowC (hopeL 41) = H := ⟨_, rfl⟩
  obtain ⟨RC, hR⟩ : ∃ H, rowC r = H := ⟨_, rfl⟩
  rw [hH, hR] at heq
  rw [hH, hR]
  have hgd : ∀ (w : World) (x y : Operand), (eqGuard .eql 143 x y (.agg RC) (.agg H41)).run Tryz.prog w = .ok () w := fun w x y => run_eqGuard_agg w .eql 143 x y RC H41 (by kernel_rfl)
  refine wpList_read (.bool (r == hopeL 41)) rfl (by go_simp) ?_
  obtain ⟨W1, hW1⟩ : ∃ W1, W.alloc (.cells RC 143) = W1 := ⟨_, rfl⟩
  have hB1 : Below W.heap.size W W1 := hW1 ▸ up_alloc up0 _
  have hW1' : W.alloc (.cells (rowC r) 143) = W1 := by rw [hR]; exact hW1
  rw [hW1'] at hb1 bN
  rw [hW1]
  have HC1 := Lib.hid (HC.out.kept hB1)
  have HT1 := Lib.hid (own_below HT.out hB1)
  have HF1 := Lib.hid (HF.out.kept hB1)
  have HAK := Lib.hid (AddK.of_below (B := B) (gF := gF) hB1)
  have HRC := Lib.hid hR
  have hRsz := hsr
  rw [hR] at hb1
  obtain ⟨e0, he1, he2, he3⟩ := hr.get (k := read.size) (by omega)
  have q0 : W1.cell? ⟨W.heap.size, read.size, none⟩ = some (iv e0) := by rw [hb1.cell, ← hR, rowC_get, he1]; rfl
  obtain ⟨vF0, us0, bF0, -, -⟩ := HF.out
  have HBF0 := Lib.hid bF0
  have hRs : (Tryz.prog.info? 143).map (·.size) = some RC.size := by rw [← hR]; exact hsr
  clear bF0
  have hBW : B ≤ gF ∧ w.heap.size ≤ B := ⟨HC.out.hB, HC.out.hwB⟩
  have hgFW := (show gF < W.heap.size by obtain ⟨v, vs, hbF, -, -⟩ := HF.out; exact hbF.lt)
  by_cases hh : r = hopeL 41
  · have hhb : (r == hopeL 41) = true := by rw [hh]; simp
    have Hr := Lib.hid (show addF l read.data.toList E f t r = [] by cases f <;> (unfold addF; rw [if_pos hh]))
    rw [hhb]
    clear heq hgd q0 hH hR hW1 hW1'
    go_wp2_with fail
    exact bodyPost_ret (results_none rfl _ _ _) (by rfl) ⟨rfl, by rw [Hr.out, List.append_nil]; exact HF1.out, HAK.out⟩
  · have hhb : (r == hopeL 41) = false := by rw [beq_eq_false_iff_ne]; exact hh
    rw [hhb]
    have c3 : W1.cell? ⟨gR, 1, none⟩ = some (.string read) := HC1.out.bR.cell 1
    have r41 : (read.size : Int) < 41 := by omega
    have r0 : (0 : Int) ≤ (read.size : Int) := by omega
    clear heq hgd hH hR hW1 hW1' bN
    by_cases h120 : e0 = 120
    · have e120 : ((e0 : Int) == 120) = true := by rw [beq_iff_eq]; omega
      have e120n : ((e0 : Int) != 120) = false := by rw [bne, e120]; rfl
      have hpre : (if e0 ≠ 120 then [t] else []) = [] := if_neg (by simpa using h120)
      have HFc : Hid (Fnd B gF W1 (fs ++ ([] : List (List Int)))) := Lib.hid (by rw [List.append_nil]; exact HF1.out)
      have HAc := HAK
      have HCc := HC1
      have HTc := HT1
      have b8 := hb1
      have cL := HCc.out.bL.cell 0
      simp at cL
      rcases f with _ | f'
      · have HAdd := Lib.hid (show addF l read.data.toList E 0 t r = ([] : List (List Int)) by rw [addF_zero hh, ← Lib.size_eq, he2]; exact hpre)
        have eK : ((t.length : Int) == (K : Int)) = true := by rw [beq_iff_eq]; omega
        go_wp2_with fail
        exact bodyPost_ret (results_none rfl _ _ _) (by rfl) ⟨rfl, by rw [HAdd.out]; exact HFc.out, HAc.out⟩
      · have HAdd := Lib.hid (show addF l read.data.toList E (f' + 1) t r = ([] : List (List Int)) ++ (List.range l.length).flatMap fun i : Nat => addF l read.data.toList E f' (t ++ [(i : Int)]) (sendN (kidB l t i).data.toList read.data.toList E r) by rw [addF_succ hh, ← Lib.size_eq, he2, hpre])
        have eK : ((t.length : Int) == (K : Int)) = false := by rw [beq_eq_false_iff_ne]; omega
        have cR := HCc.out.bR.cell 0
        simp at cR
        go_wp2_with fail
        try rw [e120n]
        clear cL cR eK e120 e120n
        go_loopw [33] (fun i wr => ∃ k : Nat, k ≤ l.length ∧ i = iv k ∧ Hid (Cap w B gN gR gF gL gA (.slice AL l.length capL) l read E K wr) ∧ Hid (Fnd B gF wr (fs ++ ([] : List (List Int)) ++ (List.range k).flatMap fun i : Nat => addF l read.data.toList E f' (t ++ [(i : Int)]) (sendN (kidB l t i).data.toList read.data.toList E r))) ∧ Hid (AddK B gF W wr) ∧ Hid (Box wr W.heap.size 143 RC)) (fun i _ => l.length - (intOf i).toNat)
        case atStart => exact ⟨0, by omega, rfl, HCc, by simpa using HFc, HAc, Lib.hid b8⟩
        case round =>
          clear HCc HFc HAc b8
          obtain ⟨k, hk, rfl, HCk, HFk, HAk, H8k⟩ := hrel
          by_cases hlt : k < l.length
          · have hlt' : (k : Int) < (l.length : Int) := by omega
            have cR := HCk.out.bR.cell 0
            simp at cR
            obtain ⟨fb, hfb⟩ : ∃ fb, (t.length == 0) = fb := ⟨_, rfl⟩
            have efb : ((t.length : Int) == 0) = fb := by
              rw [← hfb, Bool.eq_iff_iff]
              simp
            have Hfb := Lib.hid hfb
            clear hfb
            go_wp2_with fail
            refine (added_any (.slice AL l.length capL) l k fb wr (HCk.out.hl.kept HCk.out.gr) hlt h4).mono ?_
            rintro e wa ⟨rfl, hba⟩
            rw [show addS l k fb = kidB l t k by rw [← Hfb.out]; rfl]
            have hs5 : (kidB l t k).size ≤ 5 := addS_size h4 _ _
            obtain ⟨MB, hMB⟩ : ∃ M, kidB l t k = M := ⟨_, rfl⟩
            have HMB := Lib.hid hMB
            rw [hMB] at hs5 ⊢
            have HCa := Lib.hid (HCk.out.kept hba)
            have HFa := Lib.hid (HFk.out.kept hba)
            have HAa := Lib.hid (HAk.out.trans (AddK.of_below hba))
            have b8 := H8k.out.kept hba
            have HTa := Lib.hid (HAa.out.own HT.out (by decide) (box_no (HBF0.out) (by decide)))
            have bA := HCa.out.bA
            have bR := HCa.out.bR
            have hBa : B ≤ wa.heap.size := by
              have h1 := HAa.out.size
              omega
            obtain ⟨i3, hi3, hz30, hz31, hz32⟩ := info_parts int_info
            have Hsend : Hid (∀ w, Calls Tryz.prog 89 #[.agg #[.slice AL l.length capL, .string read, iv E], .agg RC, .string MB] w fun e w' => e = .returned (.agg (rowC (sendN MB.data.toList read.data.toList E r))) ∧ Below w.heap.size w w') := Lib.hid fun w => HRC.out ▸ send_any AL l.length capL read MB E r w hr9 hs5 hr
            clear hba HCk HFk HAk H8k hMB cR efb
            go_wp2_with fail
            apply wp_region_kill 10 5 (fun d => d == 2 || d == 4) [(FactK.eq _), (FactK.eq _), (FactK.own wa.heap.size 3 1 t.length (t.map fun x => iv x)), (FactK.eq _), (FactK.sl wa.heap.size 1 3 #[iv (k : Nat)]), (FactK.own wa.heap.size 3 1 (t.length + 1) ((t.map fun x => iv x) ++ [iv (k : Nat)])), (FactK.eq _), (FactK.eq (.agg RC)), (FactK.eq _), (FactK.eq (.agg (rowC (sendN MB.data.toList read.data.toList E r))))]
            case hm => kernel_rfl
            case hB => kernel_rfl
            case hk => kernel_rfl
            case hA => (intro vs; simp only [List.take_succ_cons, List.take_zero, putAll, if_true, Act.put, List.setIfInBounds_toArray, List.set_cons_zero, List.set_cons_succ]; exact rfl)
            case hstep =>
              intro vs
              refine And.intro (fun _ w hw hd => ?_) ?_
              · refine ⟨rfl, ?_⟩
                have c_bA := fun i => (bA.kept hw).cell i
                have c_bR := fun i => (bR.kept hw).cell i
                simp only [Gives]
                go_simp
                exact ⟨Below.refl _ _, rfl⟩
              refine And.intro (fun _ w hw hd => ?_) ?_
              · refine ⟨rfl, ?_⟩
                simp only [Gives]
                go_simp
                exact ⟨Below.refl _ _, rfl⟩
              refine And.intro (fun _ w hw hd => ?_) ?_
              · have d1 := hd 1 (by decide) rfl
                change vs 1 = _ at d1
                refine ⟨rfl, ?_⟩
                simp only [Gives]
                go_simp
                have ht9 := text_rows (own_below HTa.out hw) (by omega)
                refine (Clone_any _ t w ht9).mono ?_
                rintro e w1 ⟨v', rfl, ho, hb⟩
                obtain ⟨A', m', p', rfl⟩ := own_form ho
                exact ⟨_, rfl, hb, _, _, _, rfl, own_mono ho hw.size⟩
              refine And.intro (fun _ w hw hd => ?_) ?_
              · refine ⟨rfl, ?_⟩
                simp only [Gives]
                go_simp
                exact ⟨Below.refl _ _, rfl⟩
              refine And.intro (fun _ w hw hd => ?_) ?_
              · have d3 := hd 3 (by decide) rfl
                change vs 3 = _ at d3
                refine ⟨rfl, ?_⟩
                simp only [Gives]
                go_simp
                exact ⟨(Below.refl _ _).alloc (Nat.le_refl _) _, ⟨_, rfl, Box.new rfl, hw.size⟩⟩
              refine And.intro (fun h => absurd rfl h) ?_
              refine And.intro (fun _ w hw hd => ?_) ?_
              · refine ⟨rfl, ?_⟩
                have c_bA := fun i => (bA.kept hw).cell i
                have c_bR := fun i => (bR.kept hw).cell i
                simp only [Gives]
                go_simp
                exact ⟨Below.refl _ _, rfl⟩
              refine And.intro (fun _ w hw hd => ?_) ?_
              · refine ⟨rfl, ?_⟩
                have c_bA := fun i => (bA.kept hw).cell i
                have c_bR := fun i => (bR.kept hw).cell i
                simp only [Gives]
                refine gives_read (exec_load_mid 143 (.tmp 8) rfl W.heap.size 0 rfl 143 _ RC (0, 0) _ (b8.kept hw) Tryz.underlying143 rfl hRs (fun j _ => by rw [Nat.zero_add])) ⟨Below.refl _ _, rfl⟩
              refine And.intro (fun _ w hw hd => ?_) ?_
              · refine ⟨rfl, ?_⟩
                simp only [Gives]
                go_simp
                exact ⟨Below.refl _ _, rfl⟩
              refine And.intro (fun _ w hw hd => ?_) ?_
              · have d6 := hd 6 (by decide) rfl
                change vs 6 = _ at d6
                have d7 := hd 7 (by decide) rfl
                change vs 7 = _ at d7
                have d8 := hd 8 (by decide) rfl
                change vs 8 = _ at d8
                refine ⟨rfl, ?_⟩
                simp only [Gives]
                go_simp
                refine (Hsend.out w).mono ?_
                rintro e w1 ⟨rfl, hb⟩
                exact ⟨_, rfl, hb, rfl⟩
              exact trivial
            case hp =>
              intro vs o ho w hw hd
              obtain rfl := Option.some.inj ho
              have d2 := hd 2 (by decide) rfl
              obtain ⟨A2, m2, p2, d2, O2⟩ := d2
              have d4 := hd 4 (by decide) rfl
              obtain ⟨n4, d4, N4, K4⟩ := d4
              refine ⟨rfl, ?_⟩
              simp only [Gives]
              obtain ⟨v', w', hra, hoa, hga, _, hat⟩ := run_append_own_at (P := Tryz.prog) (w := w) wa.heap.size 25 25 3 i3 (.int .i64 0) 1 8 Tryz.underlying25 hi3 hz30 hz31 hz32 rfl (by decide) _ _ _ O2 ⟨n4, 0, none⟩ 1 1 [iv (k : Nat)] rfl (box_newsM N4) (by simp [Value.oneCell']) (by unfold maxLen; omega) (by omega) hw.size
              obtain ⟨Ag, mg, pg, rfl⟩ := own_form hoa
              refine gives_append (.tmp 45) (.tmp 47) 25 rfl _ _ _ ?_ ?_ hra ⟨hw.grown hga hw.size (fun b e => (O2.lt b e).1), ⟨_, _, _, rfl, hoa⟩⟩
              all_goals (go_simp)
            case hfree => rfl
            intro vs wt hw hd
            have d0 := hd 0 (by decide) rfl
            change vs 0 = _ at d0
            have d1 := hd 1 (by decide) rfl
            change vs 1 = _ at d1
            have d3 := hd 3 (by decide) rfl
            change vs 3 = _ at d3
            have d5 := hd 5 (by decide) rfl
            obtain ⟨A5, m5, p5, d5, O5⟩ := d5
            have d6 := hd 6 (by decide) rfl
            change vs 6 = _ at d6
            have d7 := hd 7 (by decide) rfl
            change vs 7 = _ at d7
            have d8 := hd 8 (by decide) rfl
            change vs 8 = _ at d8
            have d9 := hd 9 (by decide) rfl
            change vs 9 = _ at d9
            simp only [d0, d1, d3, d5, d6, d7, d8, d9, List.drop_succ_cons, List.drop_zero]
            have bA := bA.kept hw
            have bR := bR.kept hw
            clear hd d0 d1 d3 d5 d6 d7 d8 d9
            obtain ⟨RN, hRN⟩ : ∃ RN, sendN MB.data.toList read.data.toList E r = RN := ⟨_, rfl⟩
            have hok : OkL 1 RN := hRN ▸ sendN_ok hr
            have HRN := Lib.hid hRN
            rw [hRN]
            have hO5 : wt.ownsRow B 3 1 (.slice A5 m5 p5) (t ++ [(k : Int)]).length ((t ++ [(k : Int)]).map fun x => iv x) := by
              rw [List.length_append, List.map_append]
              exact own_mono O5 hBa
            have HO5 := Lib.hid hO5
            have hkl := kids_len hl6 read.data.toList E f' t r k
            have hp1 : (([] : List (List Int)) : List (List Int)).length ≤ 1 := by simp
            have h7f : 1 ≤ 7 ^ f' := Nat.one_le_pow _ _ (by decide)
            have hpw : 7 ^ (f' + 1) = 7 * 7 ^ f' := by rw [Nat.pow_succ, Nat.mul_comm]
            have hk7 : k * 7 ^ f' ≤ 5 * 7 ^ f' := Nat.mul_le_mul_right _ (by omega)
            have hbound : (fs ++ ([] : List (List Int)) ++ (List.range k).flatMap fun i : Nat => addF l read.data.toList E f' (t ++ [(i : Int)]) (sendN (kidB l t i).data.toList read.data.toList E r)).length + 7 ^ f' ≤ 20000 := by
              rw [List.length_append, List.length_append]
              omega
            have HCt := Lib.hid (HCa.out.kept hw)
            have HFt := Lib.hid (HFa.out.kept hw)
            have HAt := Lib.hid (HAa.out.trans (AddK.of_below hw))
            have B8 := Lib.hid (b8.kept hw)
            clear hRN O5 hO5 hw bA bR b8 HCa HFa HAa HTa Hsend
            go_wp2_with fail
            refine (HIH.out f' (by omega) (t ++ [(k : Int)]) RN _ _ wt (by rw [List.length_append]; simp only [List.length_cons, List.length_nil]; omega) hok HO5.out HCt.out HFt.out hbound).mono ?_
            rintro e wn ⟨rfl, hFn, hAn⟩
            obtain ⟨v1, us1, bF1, -, -⟩ := HFt.out
            have HFn : Hid (Fnd B gF wn (fs ++ ([] : List (List Int)) ++ (List.range (k + 1)).flatMap fun i : Nat => addF l read.data.toList E f' (t ++ [(i : Int)]) (sendN (kidB l t i).data.toList read.data.toList E r))) := Lib.hid (by
              have e : ((List.range (k + 1)).flatMap fun i : Nat => addF l read.data.toList E f' (t ++ [(i : Int)]) (sendN (kidB l t i).data.toList read.data.toList E r)) = ((List.range k).flatMap fun i : Nat => addF l read.data.toList E f' (t ++ [(i : Int)]) (sendN (kidB l t i).data.toList read.data.toList E r)) ++ addF l read.data.toList E f' (t ++ [(k : Int)]) RN := by
                rw [List.range_succ, List.flatMap_append, List.flatMap_cons, List.flatMap_nil, List.append_nil, HMB.out, HRN.out]
              rw [e, ← List.append_assoc]
              exact hFn)
            have HCn := Lib.hid (HCt.out.add hAn bF1)
            have HAn := Lib.hid (HAt.out.trans hAn)
            have B8n := Lib.hid (hAn.box B8.out (by decide) (by omega))
            clear hFn hAn
            go_wp2_with fail
            go_roundw
            case rel => exact ⟨k + 1, by omega, by go_num, HCn, HFn, HAn, B8n⟩
            case measure => simp [intOf]; omega
          · have hke : k = l.length := by omega
            subst hke
            go_wp2_with fail
            exact bodyPost_end (results_none rfl _ _ _) (by rfl) ⟨rfl, by rw [HAdd.out, ← List.append_assoc]; exact HFk.out, HAk.out⟩
    · have e120 : ((e0 : Int) == 120) = false := by rw [beq_eq_false_iff_ne]; omega
      obtain ⟨vF, us, bF, oF, eF⟩ := HF1.out
      have hvl := oF.1
      have c4 := bF.cell 0
      have HOF := Lib.hid oF
      have HEF := Lib.hid eF
      obtain ⟨i0, hi0, hz0, hz1, hz2⟩ := info_parts slice_info
      have hrow : ∀ b, vF.ownBlock = some b → b < W1.heap.size := fun b hb => (oF.lt b hb).2
      have n_bF := box_not_own bF (by decide) oF
      have hBz : B ≤ W1.heap.size := by have := bF.lt; omega
      simp at c4
      have HBF := Lib.hid bF
      clear oF eF
      obtain ⟨AF, mF, pF, rfl⟩ := own_form HOF.out
      go_wp2_with fail
      clear q0 c3
      apply wp_region_once 5 4 (Value.slice AF mF pF).ownBlock [(FactR.eq _ _), (FactR.eq _ _), (FactR.ownC _ B t.length (t.map fun x => iv x)), (FactR.slC _ B t.length (t.map fun x => iv x)), (FactR.any _)] (AppF B (.slice AF mF pF) fs.length us t.length (t.map fun x => iv x))
      case hm => kernel_rfl
      case hB => kernel_rfl
      case hpn => decide
      case hFp => exact appF_grown
      case hA => (intro vs; simp only [List.take_succ_cons, List.take_zero, putAll, if_true, Act.put, List.setIfInBounds_toArray, List.set_cons_zero, List.set_cons_succ]; exact rfl)
      case hstep =>
        intro vs
        refine And.intro (fun _ w hw hd => ?_) ?_
        · refine ite_yes rfl ?_
          have c_bF := fun i => (bF.grown hw n_bF).cell i
          simp only [Gives]
          go_simp
          exact ⟨Below.refl _ _, rfl⟩
        refine And.intro (fun _ w hw hd => ?_) ?_
        · refine ite_yes rfl ?_
          simp only [Gives]
          go_simp
          exact ⟨Below.refl _ _, rfl⟩
        refine And.intro (fun _ w hw hd => ?_) ?_
        · have d1 := hd 1 (by decide) rfl (by decide)
          change vs 1 = _ at d1
          refine ite_yes rfl ?_
          simp only [Gives]
          go_simp
          have ht9 := text_rows (HT1.out.kept hw (own_apart HT1.out HOF.out (by decide))) (by omega)
          refine (Clone_any _ t w ht9).mono ?_
          rintro e w1 ⟨v', rfl, ho, hb⟩
          exact ⟨_, rfl, hb, own_mono ho (by have := hw.size; omega), own_new ho hrow (by have := hw.size; omega)⟩
        refine And.intro (fun _ w hw hd => ?_) ?_
        · have d2 := hd 2 (by decide) rfl (by decide)
          obtain ⟨O2, E2⟩ := d2
          refine ite_yes rfl ?_
          simp only [Gives]
          go_simp
          obtain ⟨A2, m2, p2, hv2⟩ := own_form O2
          rw [hv2] at O2 E2
          go_simp
          exact ⟨(Below.refl _ _).alloc (Nat.le_refl _) _, ⟨_, _, rfl, Box.new rfl, fun e => (by have := hrow _ e.symm; have := hw.size; omega), own_below O2 (up_alloc up0 _), E2⟩⟩
        refine And.intro (fun h => absurd rfl h) ?_
        exact trivial
      case hp =>
        intro vs o ho w hw hd
        obtain rfl := Option.some.inj ho
        have d0 := hd 0 (by decide) rfl (by decide)
        change vs 0 = _ at d0
        have d3 := hd 3 (by decide) rfl (by decide)
        obtain ⟨g3, vc, d3, N3, E3, O3, X3⟩ := d3
        refine ⟨rfl, ?_⟩
        simp only [Gives]
        have ho := own_below HOF.out hw
        have hsz := hw.size
        obtain ⟨A3, m3, p3, hv3⟩ := own_form O3
        obtain ⟨v', w', hra, hoa, hga, _, hat⟩ := run_append_own_at (P := Tryz.prog) (w := w) B 50 50 25 i0 (.slice none 0 0) 1 24 Tryz.underlying50 hi0 hz0 hz1 hz2 rfl (by decide) _ _ _ ho ⟨g3, 0, none⟩ 1 1 [vc] rfl (box_newsM N3) (by rw [hv3]; simp [Value.oneCell']) (by unfold maxLen; omega) (by omega) (by omega)
        refine gives_append (.tmp 20) (.tmp 23) 50 rfl _ _ _ ?_ ?_ hra ⟨vc, O3, X3, hga, hoa⟩
        all_goals (go_simp)
      intro vs wt w1 wz hwt hF hwz hd
      have d0 := hd 0 (by decide) (by decide)
      change vs 0 = _ at d0
      have d1 := hd 1 (by decide) (by decide)
      change vs 1 = _ at d1
      simp only [d0, d1, List.drop_succ_cons, List.drop_zero]
      clear hd d0 d1
      obtain ⟨nF, nA, bz⟩ := Fnd.app HBF.out HOF.out HEF.out hwt hF hwz
      obtain ⟨vc, _, _, _, oV⟩ := hF
      obtain ⟨gy, capy, hvv⟩ := ownsRow_succ oV
      rw [hvv] at nF nA
      simp only [hvv]
      simp only [Nat.zero_add, Nat.reduceAdd]
      obtain ⟨V22, hV22⟩ : ∃ V, vs 2 = V := ⟨_, rfl⟩
      obtain ⟨V23, hV23⟩ : ∃ V, vs 3 = V := ⟨_, rfl⟩
      rw [hV22, hV23]
      clear hV22 hV23
      have cz := bz.cell 0
      simp at cz
      have fz := bz.free 0
      have HFc := Lib.hid nF
      have HAc := Lib.hid (HAK.out.trans nA)
      have HCc := Lib.hid (HC1.out.add nA HBF.out)
      have HTc := Lib.hid (nA.own HT1.out (by decide) (box_no HBF.out (by decide)))
      have b8 := nA.box hb1 (by decide) (by omega)
      clear nF nA oV hwt hwz hvv bz bF c4 n_bF hrow
      have e120n : ((e0 : Int) != 120) = true := by rw [bne, e120]; rfl
      have hpre : (if e0 ≠ 120 then [t] else []) = [t] := if_pos h120
      have cL := HCc.out.bL.cell 0
      simp at cL
      rcases f with _ | f'
      · have HAdd := Lib.hid (show addF l read.data.toList E 0 t r = [t] by rw [addF_zero hh, ← Lib.size_eq, he2]; exact hpre)
        have eK : ((t.length : Int) == (K : Int)) = true := by rw [beq_iff_eq]; omega
        go_wp2_with fail
        exact bodyPost_ret (results_none rfl _ _ _) (by rfl) ⟨rfl, by rw [HAdd.out]; exact HFc.out, HAc.out⟩
      · have HAdd := Lib.hid (show addF l read.data.toList E (f' + 1) t r = [t] ++ (List.range l.length).flatMap fun i : Nat => addF l read.data.toList E f' (t ++ [(i : Int)]) (sendN (kidB l t i).data.toList read.data.toList E r) by rw [addF_succ hh, ← Lib.size_eq, he2, hpre])
        have eK : ((t.length : Int) == (K : Int)) = false := by rw [beq_eq_false_iff_ne]; omega
        have cR := HCc.out.bR.cell 0
        simp at cR
        go_wp2_with fail
        try rw [e120n]
        clear cL cR eK e120 e120n
        go_loopw [33] (fun i wr => ∃ k : Nat, k ≤ l.length ∧ i = iv k ∧ Hid (Cap w B gN gR gF gL gA (.slice AL l.length capL) l read E K wr) ∧ Hid (Fnd B gF wr (fs ++ [t] ++ (List.range k).flatMap fun i : Nat => addF l read.data.toList E f' (t ++ [(i : Int)]) (sendN (kidB l t i).data.toList read.data.toList E r))) ∧ Hid (AddK B gF W wr) ∧ Hid (Box wr W.heap.size 143 RC)) (fun i _ => l.length - (intOf i).toNat)
        case atStart => exact ⟨0, by omega, rfl, HCc, by simpa using HFc, HAc, Lib.hid b8⟩
        case round =>
          clear HCc HFc HAc b8
          obtain ⟨k, hk, rfl, HCk, HFk, HAk, H8k⟩ := hrel
          by_cases hlt : k < l.length
          · have hlt' : (k : Int) < (l.length : Int) := by omega
            have cR := HCk.out.bR.cell 0
            simp at cR
            obtain ⟨fb, hfb⟩ : ∃ fb, (t.length == 0) = fb := ⟨_, rfl⟩
            have efb : ((t.length : Int) == 0) = fb := by
              rw [← hfb, Bool.eq_iff_iff]
              simp
            have Hfb := Lib.hid hfb
            clear hfb
            go_wp2_with fail
            refine (added_any (.slice AL l.length capL) l k fb wr (HCk.out.hl.kept HCk.out.gr) hlt h4).mono ?_
            rintro e wa ⟨rfl, hba⟩
            rw [show addS l k fb = kidB l t k by rw [← Hfb.out]; rfl]
            have hs5 : (kidB l t k).size ≤ 5 := addS_size h4 _ _
            obtain ⟨MB, hMB⟩ : ∃ M, kidB l t k = M := ⟨_, rfl⟩
            have HMB := Lib.hid hMB
            rw [hMB] at hs5 ⊢
            have HCa := Lib.hid (HCk.out.kept hba)
            have HFa := Lib.hid (HFk.out.kept hba)
            have HAa := Lib.hid (HAk.out.trans (AddK.of_below hba))
            have b8 := H8k.out.kept hba
            have HTa := Lib.hid (HAa.out.own HT.out (by decide) (box_no (HBF0.out) (by decide)))
            have bA := HCa.out.bA
            have bR := HCa.out.bR
            have hBa : B ≤ wa.heap.size := by
              have h1 := HAa.out.size
              omega
            obtain ⟨i3, hi3, hz30, hz31, hz32⟩ := info_parts int_info
            have Hsend : Hid (∀ w, Calls Tryz.prog 89 #[.agg #[.slice AL l.length capL, .string read, iv E], .agg RC, .string MB] w fun e w' => e = .returned (.agg (rowC (sendN MB.data.toList read.data.toList E r))) ∧ Below w.heap.size w w') := Lib.hid fun w => HRC.out ▸ send_any AL l.length capL read MB E r w hr9 hs5 hr
            clear hba HCk HFk HAk H8k hMB cR efb
            go_wp2_with fail
            apply wp_region_kill 10 5 (fun d => d == 2 || d == 4) [(FactK.eq _), (FactK.eq _), (FactK.own wa.heap.size 3 1 t.length (t.map fun x => iv x)), (FactK.eq _), (FactK.sl wa.heap.size 1 3 #[iv (k : Nat)]), (FactK.own wa.heap.size 3 1 (t.length + 1) ((t.map fun x => iv x) ++ [iv (k : Nat)])), (FactK.eq _), (FactK.eq (.agg RC)), (FactK.eq _), (FactK.eq (.agg (rowC (sendN MB.data.toList read.data.toList E r))))]
            case hm => kernel_rfl
            case hB => kernel_rfl
            case hk => kernel_rfl
            case hA => (intro vs; simp only [List.take_succ_cons, List.take_zero, putAll, if_true, Act.put, List.setIfInBounds_toArray, List.set_cons_zero, List.set_cons_succ]; exact rfl)
            case hstep =>
              intro vs
              refine And.intro (fun _ w hw hd => ?_) ?_
              · refine ⟨rfl, ?_⟩
                have c_bA := fun i => (bA.kept hw).cell i
                have c_bR := fun i => (bR.kept hw).cell i
                simp only [Gives]
                go_simp
                exact ⟨Below.refl _ _, rfl⟩
              refine And.intro (fun _ w hw hd => ?_) ?_
              · refine ⟨rfl, ?_⟩
                simp only [Gives]
                go_simp
                exact ⟨Below.refl _ _, rfl⟩
              refine And.intro (fun _ w hw hd => ?_) ?_
              · have d1 := hd 1 (by decide) rfl
                change vs 1 = _ at d1
                refine ⟨rfl, ?_⟩
                simp only [Gives]
                go_simp
                have ht9 := text_rows (own_below HTa.out hw) (by omega)
                refine (Clone_any _ t w ht9).mono ?_
                rintro e w1 ⟨v', rfl, ho, hb⟩
                obtain ⟨A', m', p', rfl⟩ := own_form ho
                exact ⟨_, rfl, hb, _, _, _, rfl, own_mono ho hw.size⟩
              refine And.intro (fun _ w hw hd => ?_) ?_
              · refine ⟨rfl, ?_⟩
                simp only [Gives]
                go_simp
                exact ⟨Below.refl _ _, rfl⟩
              refine And.intro (fun _ w hw hd => ?_) ?_
              · have d3 := hd 3 (by decide) rfl
                change vs 3 = _ at d3
                refine ⟨rfl, ?_⟩
                simp only [Gives]
                go_simp
                exact ⟨(Below.refl _ _).alloc (Nat.le_refl _) _, ⟨_, rfl, Box.new rfl, hw.size⟩⟩
              refine And.intro (fun h => absurd rfl h) ?_
              refine And.intro (fun _ w hw hd => ?_) ?_
              · refine ⟨rfl, ?_⟩
                have c_bA := fun i => (bA.kept hw).cell i
                have c_bR := fun i => (bR.kept hw).cell i
                simp only [Gives]
                go_simp
                exact ⟨Below.refl _ _, rfl⟩
              refine And.intro (fun _ w hw hd => ?_) ?_
              · refine ⟨rfl, ?_⟩
                have c_bA := fun i => (bA.kept hw).cell i
                have c_bR := fun i => (bR.kept hw).cell i
                simp only [Gives]
                refine gives_read (exec_load_mid 143 (.tmp 8) rfl W.heap.size 0 rfl 143 _ RC (0, 0) _ (b8.kept hw) Tryz.underlying143 rfl hRs (fun j _ => by rw [Nat.zero_add])) ⟨Below.refl _ _, rfl⟩
              refine And.intro (fun _ w hw hd => ?_) ?_
              · refine ⟨rfl, ?_⟩
                simp only [Gives]
                go_simp
                exact ⟨Below.refl _ _, rfl⟩
              refine And.intro (fun _ w hw hd => ?_) ?_
              · have d6 := hd 6 (by decide) rfl
                change vs 6 = _ at d6
                have d7 := hd 7 (by decide) rfl
                change vs 7 = _ at d7
                have d8 := hd 8 (by decide) rfl
                change vs 8 = _ at d8
                refine ⟨rfl, ?_⟩
                simp only [Gives]
                go_simp
                refine (Hsend.out w).mono ?_
                rintro e w1 ⟨rfl, hb⟩
                exact ⟨_, rfl, hb, rfl⟩
              exact trivial
            case hp =>
              intro vs o ho w hw hd
              obtain rfl := Option.some.inj ho
              have d2 := hd 2 (by decide) rfl
              obtain ⟨A2, m2, p2, d2, O2⟩ := d2
              have d4 := hd 4 (by decide) rfl
              obtain ⟨n4, d4, N4, K4⟩ := d4
              refine ⟨rfl, ?_⟩
              simp only [Gives]
              obtain ⟨v', w', hra, hoa, hga, _, hat⟩ := run_append_own_at (P := Tryz.prog) (w := w) wa.heap.size 25 25 3 i3 (.int .i64 0) 1 8 Tryz.underlying25 hi3 hz30 hz31 hz32 rfl (by decide) _ _ _ O2 ⟨n4, 0, none⟩ 1 1 [iv (k : Nat)] rfl (box_newsM N4) (by simp [Value.oneCell']) (by unfold maxLen; omega) (by omega) hw.size
              obtain ⟨Ag, mg, pg, rfl⟩ := own_form hoa
              refine gives_append (.tmp 45) (.tmp 47) 25 rfl _ _ _ ?_ ?_ hra ⟨hw.grown hga hw.size (fun b e => (O2.lt b e).1), ⟨_, _, _, rfl, hoa⟩⟩
              all_goals (go_simp)
            case hfree => rfl
            intro vs wt hw hd
            have d0 := hd 0 (by decide) rfl
            change vs 0 = _ at d0
            have d1 := hd 1 (by decide) rfl
            change vs 1 = _ at d1
            have d3 := hd 3 (by decide) rfl
            change vs 3 = _ at d3
            have d5 := hd 5 (by decide) rfl
            obtain ⟨A5, m5, p5, d5, O5⟩ := d5
            have d6 := hd 6 (by decide) rfl
            change vs 6 = _ at d6
            have d7 := hd 7 (by decide) rfl
            change vs 7 = _ at d7
            have d8 := hd 8 (by decide) rfl
            change vs 8 = _ at d8
            have d9 := hd 9 (by decide) rfl
            change vs 9 = _ at d9
            simp only [d0, d1, d3, d5, d6, d7, d8, d9, List.drop_succ_cons, List.drop_zero]
            have bA := bA.kept hw
            have bR := bR.kept hw
            clear hd d0 d1 d3 d5 d6 d7 d8 d9
            obtain ⟨RN, hRN⟩ : ∃ RN, sendN MB.data.toList read.data.toList E r = RN := ⟨_, rfl⟩
            have hok : OkL 1 RN := hRN ▸ sendN_ok hr
            have HRN := Lib.hid hRN
            rw [hRN]
            have hO5 : wt.ownsRow B 3 1 (.slice A5 m5 p5) (t ++ [(k : Int)]).length ((t ++ [(k : Int)]).map fun x => iv x) := by
              rw [List.length_append, List.map_append]
              exact own_mono O5 hBa
            have HO5 := Lib.hid hO5
            have hkl := kids_len hl6 read.data.toList E f' t r k
            have hp1 : ([t] : List (List Int)).length ≤ 1 := by simp
            have h7f : 1 ≤ 7 ^ f' := Nat.one_le_pow _ _ (by decide)
            have hpw : 7 ^ (f' + 1) = 7 * 7 ^ f' := by rw [Nat.pow_succ, Nat.mul_comm]
            have hk7 : k * 7 ^ f' ≤ 5 * 7 ^ f' := Nat.mul_le_mul_right _ (by omega)
            have hbound : (fs ++ [t] ++ (List.range k).flatMap fun i : Nat => addF l read.data.toList E f' (t ++ [(i : Int)]) (sendN (kidB l t i).data.toList read.data.toList E r)).length + 7 ^ f' ≤ 20000 := by
              rw [List.length_append, List.length_append]
              omega
            have HCt := Lib.hid (HCa.out.kept hw)
            have HFt := Lib.hid (HFa.out.kept hw)
            have HAt := Lib.hid (HAa.out.trans (AddK.of_below hw))
            have B8 := Lib.hid (b8.kept hw)
            clear hRN O5 hO5 hw bA bR b8 HCa HFa HAa HTa Hsend
            go_wp2_with fail
            refine (HIH.out f' (by omega) (t ++ [(k : Int)]) RN _ _ wt (by rw [List.length_append]; simp only [List.length_cons, List.length_nil]; omega) hok HO5.out HCt.out HFt.out hbound).mono ?_
            rintro e wn ⟨rfl, hFn, hAn⟩
            obtain ⟨v1, us1, bF1, -, -⟩ := HFt.out
            have HFn : Hid (Fnd B gF wn (fs ++ [t] ++ (List.range (k + 1)).flatMap fun i : Nat => addF l read.data.toList E f' (t ++ [(i : Int)]) (sendN (kidB l t i).data.toList read.data.toList E r))) := Lib.hid (by
              have e : ((List.range (k + 1)).flatMap fun i : Nat => addF l read.data.toList E f' (t ++ [(i : Int)]) (sendN (kidB l t i).data.toList read.data.toList E r)) = ((List.range k).flatMap fun i : Nat => addF l read.data.toList E f' (t ++ [(i : Int)]) (sendN (kidB l t i).data.toList read.data.toList E r)) ++ addF l read.data.toList E f' (t ++ [(k : Int)]) RN := by
                rw [List.range_succ, List.flatMap_append, List.flatMap_cons, List.flatMap_nil, List.append_nil, HMB.out, HRN.out]
              rw [e, ← List.append_assoc]
              exact hFn)
            have HCn := Lib.hid (HCt.out.add hAn bF1)
            have HAn := Lib.hid (HAt.out.trans hAn)
            have B8n := Lib.hid (hAn.box B8.out (by decide) (by omega))
            clear hFn hAn
            go_wp2_with fail
            go_roundw
            case rel => exact ⟨k + 1, by omega, by go_num, HCn, HFn, HAn, B8n⟩
            case measure => simp [intOf]; omega
          · have hke : k = l.length := by omega
            subst hke
            go_wp2_with fail
            exact bodyPost_end (results_none rfl _ _ _) (by rfl) ⟨rfl, by rw [HAdd.out, ← List.append_assoc]; exact HFk.out, HAk.out⟩
theorem add_any (w : World) (B gN gR gF gL gA : Nat) (vl : Value) (l : List ByteArray) (read : ByteArray) (E K : Nat) (hr9 : read.size ≤ 40) (hl6 : l.length ≤ 6) (h4 : ∀ s ∈ l, s.size ≤ 4) (hK : K ≤ 5) (f : Nat) :
    ∀ (t : List Int) (r : List Nat) (vt : Value) (fs : List (List Int)) (W : World), t.length + f = K → OkL 1 r → W.ownsRow B 3 1 vt t.length (t.map fun x => iv x) → Cap w B gN gR gF gL gA vl l read E K W → Fnd B gF W fs → fs.length + 7 ^ f ≤ 20000 →
      Calls Tryz.prog 87 #[vt, .agg (rowC r), .pointer (some ⟨gN, 0, none⟩), .pointer (some ⟨gR, 0, none⟩), .pointer (some ⟨gF, 0, none⟩), .pointer (some ⟨gL, 0, none⟩), .pointer (some ⟨gA, 0, none⟩)] W fun e W' => e = .returned (.tuple #[]) ∧ Fnd B gF W' (fs ++ addF l read.data.toList E f t r) ∧ AddK B gF W W' := by
  induction f using Nat.strongRecOn with
  | ind f ih => exact add_step w B gN gR gF gL gA vl l read E K hr9 hl6 h4 hK f ih
end Go.Proofs.YtonekgefegfapaaGreat
