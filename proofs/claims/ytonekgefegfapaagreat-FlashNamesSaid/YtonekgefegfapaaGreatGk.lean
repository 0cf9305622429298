/-
  WALKS of (reader).texts and Texts. No condition of Texts.
-/
import Derived.Test.YtonekgefegfapaaGreatGj
namespace Go.Proofs.YtonekgefegfapaaGreat
open Go.RowKit

theorem addF_mem {l : List ByteArray} {R : By} {E : Nat} : ∀ (f : Nat) (t : List Int) (r : List Nat), ∀ x ∈ addF l R E f t r, x.length ≤ t.length + f
  | 0, t, r => fun x hx => by
    unfold addF at hx
    split at hx
    · cases hx
    · split at hx
      · rw [List.mem_singleton.1 hx]
        exact Nat.le_refl _
      · cases hx
  | f + 1, t, r => fun x hx => by
    unfold addF at hx
    split at hx
    · cases hx
    · rcases List.mem_append.1 hx with hx | hx
      · split at hx
        · rw [List.mem_singleton.1 hx]
          omega
        · cases hx
      · obtain ⟨i, _, hi⟩ := List.mem_flatMap.1 hx
        have := addF_mem f _ _ x hi
        rw [List.length_append] at this
        simp only [List.length_cons, List.length_nil] at this
        omega
/-- What a list of texts is: those that the search finds, in order. -/
def IsTexts (l : List ByteArray) (R : By) (E K : Nat) (ts : List (List Int)) : Prop := ts.Perm (addF l R E K [] (startN R E)) ∧ ts.Pairwise fun a b => ¬ ltT b a
set_option maxRecDepth 100000 in
set_option maxHeartbeats 1500000 in
theorem rtexts_any (vl : Value) (l : List ByteArray) (read : ByteArray) (E K : Nat) (w : World) (hl : RowsAt w vl 1 sc l) (hl6 : l.length ≤ 6) (h4 : ∀ s ∈ l, s.size ≤ 4) (hr9 : read.size ≤ 40) (hK : K ≤ 5) :
    Calls Tryz.prog 67 #[.agg #[vl, .string read, iv E], iv K] w fun e w' => ∃ v ps, e = .returned v ∧ TextsAny w' v ps ∧ IsTexts l read.data.toList E K (ps.map (·.2)) ∧ Below w.heap.size w w' := by
  obtain ⟨-, AL, capL, hv, -, -⟩ := hl.form
  subst hv
  have HL := Lib.hid hl
  clear hl
  have hi41 : (Tryz.prog.info? 143).map (·.size) = some (rowC (hopeL 41)).size := by rw [rowC_size]; exact info143
  have h1R := rowC_one (hopeL 41)
  have hsR : (rowC (hopeL 41)).size = 41 := rfl
  go_enter Tryz.func67, Tryz.ntmps67
  go_wp2_with fail
  refine (hopeless_any _).mono ?_
  rintro e w1 ⟨rfl, hb⟩
  have b1 : Box w1 w.heap.size 103 #[.slice AL l.length capL, .string read, iv E] := (((Box.new rfl).alloc _).alloc _).kept hb
  have b2 : Box w1 (w.heap.size + 1) 3 #[iv K] := ((Box.new (by simp)).alloc _).kept hb
  have b3 : Box w1 (w.heap.size + 1 + 1) 50 #[.slice none 0 0] := (Box.new (by simp)).kept hb
  have HB := Lib.hid (up_later (up_alloc (up_alloc (up_alloc (up0 (w := w)) _) _) _) hb)
  have hz1 : w.heap.size + 3 ≤ w1.heap.size := by
    have := hb.size
    simp at this
    omega
  clear hb
  obtain ⟨R, hR⟩ : ∃ R, rowC (hopeL 41) = R := ⟨_, rfl⟩
  have HR := Lib.hid hR
  rw [hR] at hi41 h1R hsR ⊢
  clear hR
  obtain ⟨W2, hW2⟩ : ∃ W2, (w1.alloc (.cells R 143)) = W2 := ⟨_, rfl⟩
  have hb2 : Below w1.heap.size w1 W2 := hW2 ▸ up_alloc up0 _
  have b4 : Box W2 w1.heap.size 143 R := hW2 ▸ Box.new rfl
  have hW2s : W2.heap.size = w1.heap.size + 1 := by rw [← hW2]; simp
  go_upto_region 5 with (refine wpList_store_new rfl 143 (.tmp 6) (.tmp 8) rfl _ R 143 rfl rfl hi41 (by rw [hsR]; rfl) h1R ?_; rw [hW2])
  obtain ⟨gN, hgN⟩ : ∃ g, w1.heap.size = g := ⟨_, rfl⟩
  obtain ⟨gR, hgR⟩ : ∃ g, w.heap.size = g := ⟨_, rfl⟩
  rw [hgN] at b4 hW2s hz1 ⊢
  rw [hgR] at b1 b2 b3 hz1 ⊢
  obtain ⟨W3, hW3⟩ : ∃ W3, W2.alloc (.cells #[.func (.func 87) #[] #[.pointer (some ⟨gN, 0, none⟩), .pointer (some ⟨gR, 0, none⟩), .pointer (some ⟨gR + 1 + 1, 0, none⟩), .pointer (some ⟨gR + 1, 0, none⟩), .pointer (some ⟨gN + 1, 0, none⟩)]] 145) = W3 := ⟨_, rfl⟩
  have hb3 : Below W2.heap.size W2 W3 := hW3 ▸ up_alloc up0 _
  have bA : Box W3 (gN + 1) 145 #[.func (.func 87) #[] #[.pointer (some ⟨gN, 0, none⟩), .pointer (some ⟨gR, 0, none⟩), .pointer (some ⟨gR + 1 + 1, 0, none⟩), .pointer (some ⟨gR + 1, 0, none⟩), .pointer (some ⟨gN + 1, 0, none⟩)]] := hW3 ▸ Box.new hW2s.symm
  have hbB := up_later (up_later HB.out hb2) hb3
  have hC : Cap w w.heap.size gN gR (gR + 1 + 1) (gR + 1) (gN + 1) (.slice AL l.length capL) l read E K W3 :=
    ⟨HR.out ▸ b4.kept hb3, (b1.kept hb2).kept hb3, (b2.kept hb2).kept hb3, bA, hbB, HL.out, Nat.le_refl _, by omega⟩
  have hF : Fnd w.heap.size (gR + 1 + 1) W3 [] := ⟨.slice none 0 0, [], (b3.kept hb2).kept hb3, ⟨by simp, .inl ⟨rfl, rfl⟩⟩, fun i v t hv _ => by simp at hv⟩
  have HC := Lib.hid hC
  have HF := Lib.hid hF
  have bR := hC.bR
  clear hC hF b1 b2 b3 b4 hb2 hb3 hbB hW2
  rw [hW3]
  clear hW3
  apply wp_region_by 3 [(Fact.eq _), (Fact.eq _), (Fact.eq _)]
  case hm => kernel_rfl
  case hB => kernel_rfl
  case hA => (intro vs; simp only [List.take_succ_cons, List.take_zero, putAll, if_true, Act.put, List.setIfInBounds_toArray, List.set_cons_zero, List.set_cons_succ]; exact rfl)
  case hstep =>
    intro vs
    refine And.intro (fun w hw hd => ?_) ?_
    · refine ite_yes rfl ?_
      have c_bA := fun i => (bA.kept hw).cell i
      have c_bR := fun i => (bR.kept hw).cell i
      simp only [Gives]
      go_simp
      exact ⟨Below.refl _ _, rfl, fun h => by cases h⟩
    refine And.intro (fun w hw hd => ?_) ?_
    · refine ite_yes rfl ?_
      have c_bA := fun i => (bA.kept hw).cell i
      have c_bR := fun i => (bR.kept hw).cell i
      simp only [Gives]
      go_simp
      exact ⟨Below.refl _ _, rfl, fun h => by cases h⟩
    refine And.intro (fun w hw hd => ?_) ?_
    · have d1 := hd 1 (by decide) rfl
      change vs 1 = _ at d1
      refine ite_yes rfl ?_
      simp only [Gives]
      go_simp
      refine (start_any AL l.length capL read E w hr9).mono ?_
      rintro e w1 ⟨rfl, hb⟩
      exact ⟨_, rfl, hb, rfl, fun h => by cases h⟩
    exact trivial
  intro vs wt hw hd hne hlo
  have d0 := hd 0 (by decide)
  change vs 0 = _ at d0
  have d1 := hd 1 (by decide)
  change vs 1 = _ at d1
  have d2 := hd 2 (by decide)
  change vs 2 = _ at d2
  simp only [d0, d1, d2, List.drop_succ_cons, List.drop_zero]
  have bA := bA.kept hw
  have bR := bR.kept hw
  have c_bA := fun i => bA.cell i
  have f_bA := fun i => bA.free i
  have c_bR := fun i => bR.cell i
  have f_bR := fun i => bR.free i
  clear hd hne hlo d0 d1 d2
  have hok : OkL 1 (startN read.data.toList E) := sendN_ok start_ok
  obtain ⟨SN, hSN⟩ : ∃ S, startN read.data.toList E = S := ⟨_, rfl⟩
  have HSN := Lib.hid hSN
  rw [hSN] at hok ⊢
  have HC := Lib.hid (HC.out.kept hw)
  have HF := Lib.hid (HF.out.kept hw)
  clear hw bA bR hSN
  go_wp2_with fail
  have h7 : 7 ^ K ≤ 7 ^ 5 := Nat.pow_le_pow_right (by decide) hK
  refine (add_any w w.heap.size gN gR (gR + 1 + 1) (gR + 1) (gN + 1) (.slice AL l.length capL) l read E K hr9 hl6 h4 hK K [] SN (.slice none 0 0) [] wt (by simp) hok ⟨by simp, .inl ⟨rfl, rfl⟩⟩ HC.out HF.out (by simp; omega)).mono ?_
  rintro e w5 ⟨rfl, hF5, hA5⟩
  obtain ⟨v0, us0, bF0, -, -⟩ := HF.out
  have HC5 := Lib.hid (HC.out.add hA5 bF0)
  rw [List.nil_append] at hF5
  have hmem := addF_mem (l := l) (R := read.data.toList) (E := E) K [] SN
  have hlen := addF_len l hl6 read.data.toList E K [] SN
  obtain ⟨vF, bF, hsort⟩ := sort_any w.heap.size (gR + 1 + 1) _ w5 hF5 (fun x hx => by have := hmem x hx; simp at this; omega) (by omega)
  have cF := bF.cell 0
  simp at cF
  clear hA5 hF5 bF0 bF HF
  go_wp2_with fail
  refine hsort.mono ?_
  rintro e w6 ⟨rfl, bF6, ⟨ps, hT, hp, hpw⟩, hA6⟩
  have cF6 := bF6.cell 0
  simp at cF6
  have hB6 := hA6.below HC5.out.hB HC5.out.hwB HC5.out.gr
  have HT := Lib.hid hT
  have HP := Lib.hid (show IsTexts l read.data.toList E K (ps.map (·.2)) from ⟨by rw [HSN.out]; exact hp, hpw⟩)
  clear hT hp hpw bF6 hA6 cF
  go_wp2_with fail
  go_ret
  exact ⟨_, _, rfl, HT.out, HP.out, hB6⟩
/-- The error of Texts. -/
def rangeB (E K : Int) : Bool := decide (E < 0) || decide (3 < E) || decide (K < 0) || decide (5 < K)
def textsE (l : List ByteArray) (read : ByteArray) (E K : Int) : Int := if codeE l ≠ 0 then codeE l else if signsE [read] ≠ 0 then signsE [read] else if rangeB E K = true then 2 else 0
theorem signs_len {r : ByteArray} (h : signsE [r] = 0) : r.size ≤ 40 := by
  unfold signsE at h
  by_cases h1 : [r].all (fun s => decide (s.size ≤ 40)) = false
  · rw [if_pos h1] at h
    cases h
  · simpa using h1
theorem strs_one {w : World} {g : Nat} {x : ByteArray} (h : Box w g 9 #[.string x]) : RowsAt w (.slice (some ⟨g, 0, none⟩) 1 1) 1 sc [x] :=
  ⟨by simp, _, _, rfl, by simp, by decide, fun _ => ⟨g, 0, rfl, h.lt, fun i y hy j u hu => by
    rw [h.cell]
    rcases i with _ | i
    · obtain rfl : y = x := by simpa using hy.symm
      rcases j with _ | j
      · obtain rfl : u = .string y := by simpa [sc] using hu.symm
        rfl
      · simp [sc] at hu
    · simp at hy⟩⟩
def TextsP (w : World) (l : List ByteArray) (read : ByteArray) (E K : Int) (e : Ending) (w' : World) : Prop :=
  ∃ u ps, e = .returned (.tuple #[u, iv (textsE l read E K)]) ∧ TextsAny w' u ps ∧ (textsE l read E K = 0 → IsTexts l read.data.toList E.toNat K.toNat (ps.map (·.2))) ∧ (textsE l read E K ≠ 0 → u = .slice none 0 0 ∧ ps = []) ∧ Below w.heap.size w w'
theorem textsP_no {w w' : World} {l : List ByteArray} {read : ByteArray} {E K c : Int} (hc : textsE l read E K = c) (h0 : c ≠ 0) (hb : Below w.heap.size w w') : TextsP w l read E K (.returned (.tuple #[.slice none 0 0, iv c])) w' :=
  ⟨.slice none 0 0, [], by rw [hc], ⟨⟨_, _, rfl, by simp, by simp, fun h => absurd rfl h⟩, fun p hp => by cases hp⟩, fun h => absurd (hc.symm.trans h) h0, fun _ => ⟨rfl, rfl⟩, hb⟩
set_option maxRecDepth 100000 in
set_option maxHeartbeats 2000000 in
theorem Texts_any (v : Value) (l : List ByteArray) (read : ByteArray) (E K : Int) (w : World) (hl : RowsAny w v 1 sc l) : Calls Tryz.prog 35 #[.agg #[v], .string read, iv E, iv K] w fun e w' => TextsP w l read E K e w' := by
  obtain ⟨A2, cap2, hv2, -, -⟩ := hl.form
  subst hv2
  have HL := Lib.hid hl
  obtain ⟨C, hC⟩ : ∃ C, codeE l = C := ⟨_, rfl⟩
  have HE := Lib.hid hC
  by_cases c0 : C = 0
  · subst c0
    obtain ⟨hl6, hcb⟩ := codeE_len hC
    have HRo := Lib.hid (hl.rows (by omega))
    have H4 := Lib.hid (codeB_four hcb)
    clear hl hC hcb
    obtain ⟨D, hD⟩ : ∃ D, signsE [read] = D := ⟨_, rfl⟩
    have HS := Lib.hid hD
    by_cases d0 : D = 0
    · subst d0
      have h40 := signs_len hD
      clear hD
      by_cases a1 : E < 0
      · skip
        have HR := Lib.hid (show textsE l read E K = 2 by
          unfold textsE
          rw [if_neg (by rw [HE.out]; simp), if_neg (by rw [HS.out]; simp), if_pos]
          unfold rangeB
          simp [a1])
        go_enter Tryz.func35, Tryz.ntmps35
        have B1 := Box.new (w := w) (t := 30) (cs := #[.slice A2 l.length cap2]) rfl
        have c1 := fun i => B1.cell i
        go_wp2_with fail
        refine (CheckCode_any (.slice A2 l.length cap2) l _ (HL.out.kept (up_alloc up0 _))).mono ?_
        rintro e w1 ⟨rfl, hb⟩
        have hB := up_later (up_alloc up0 _) hb
        rw [HE.out]
        have B1 := B1.kept hb
        have c1 := fun i => B1.cell i
        clear hb
        go_wp2_with fail
        refine (checkSigns_any _ [read] _ (strs_one (Box.new rfl))).mono ?_
        rintro e w2 ⟨rfl, hb⟩
        have hB2 := up_later (up_alloc hB _) hb
        rw [HS.out]
        have B1 := (B1.alloc (.cells #[.string read] 9)).kept hb
        have c1 := fun i => B1.cell i
        clear hb
        go_wp2_with fail
        go_ret2
        exact textsP_no HR.out (by decide) hB2
      by_cases a2 : 3 < E
      · skip
        have HR := Lib.hid (show textsE l read E K = 2 by
          unfold textsE
          rw [if_neg (by rw [HE.out]; simp), if_neg (by rw [HS.out]; simp), if_pos]
          unfold rangeB
          simp [a2])
        go_enter Tryz.func35, Tryz.ntmps35
        have B1 := Box.new (w := w) (t := 30) (cs := #[.slice A2 l.length cap2]) rfl
        have c1 := fun i => B1.cell i
        go_wp2_with fail
        refine (CheckCode_any (.slice A2 l.length cap2) l _ (HL.out.kept (up_alloc up0 _))).mono ?_
        rintro e w1 ⟨rfl, hb⟩
        have hB := up_later (up_alloc up0 _) hb
        rw [HE.out]
        have B1 := B1.kept hb
        have c1 := fun i => B1.cell i
        clear hb
        go_wp2_with fail
        refine (checkSigns_any _ [read] _ (strs_one (Box.new rfl))).mono ?_
        rintro e w2 ⟨rfl, hb⟩
        have hB2 := up_later (up_alloc hB _) hb
        rw [HS.out]
        have B1 := (B1.alloc (.cells #[.string read] 9)).kept hb
        have c1 := fun i => B1.cell i
        clear hb
        go_wp2_with fail
        go_ret2
        exact textsP_no HR.out (by decide) hB2
      by_cases a3 : K < 0
      · skip
        have HR := Lib.hid (show textsE l read E K = 2 by
          unfold textsE
          rw [if_neg (by rw [HE.out]; simp), if_neg (by rw [HS.out]; simp), if_pos]
          unfold rangeB
          simp [a3])
        go_enter Tryz.func35, Tryz.ntmps35
        have B1 := Box.new (w := w) (t := 30) (cs := #[.slice A2 l.length cap2]) rfl
        have c1 := fun i => B1.cell i
        go_wp2_with fail
        refine (CheckCode_any (.slice A2 l.length cap2) l _ (HL.out.kept (up_alloc up0 _))).mono ?_
        rintro e w1 ⟨rfl, hb⟩
        have hB := up_later (up_alloc up0 _) hb
        rw [HE.out]
        have B1 := B1.kept hb
        have c1 := fun i => B1.cell i
        clear hb
        go_wp2_with fail
        refine (checkSigns_any _ [read] _ (strs_one (Box.new rfl))).mono ?_
        rintro e w2 ⟨rfl, hb⟩
        have hB2 := up_later (up_alloc hB _) hb
        rw [HS.out]
        have B1 := (B1.alloc (.cells #[.string read] 9)).kept hb
        have c1 := fun i => B1.cell i
        clear hb
        go_wp2_with fail
        go_ret2
        exact textsP_no HR.out (by decide) hB2
      by_cases a4 : 5 < K
      · skip
        have HR := Lib.hid (show textsE l read E K = 2 by
          unfold textsE
          rw [if_neg (by rw [HE.out]; simp), if_neg (by rw [HS.out]; simp), if_pos]
          unfold rangeB
          simp [a4])
        go_enter Tryz.func35, Tryz.ntmps35
        have B1 := Box.new (w := w) (t := 30) (cs := #[.slice A2 l.length cap2]) rfl
        have c1 := fun i => B1.cell i
        go_wp2_with fail
        refine (CheckCode_any (.slice A2 l.length cap2) l _ (HL.out.kept (up_alloc up0 _))).mono ?_
        rintro e w1 ⟨rfl, hb⟩
        have hB := up_later (up_alloc up0 _) hb
        rw [HE.out]
        have B1 := B1.kept hb
        have c1 := fun i => B1.cell i
        clear hb
        go_wp2_with fail
        refine (checkSigns_any _ [read] _ (strs_one (Box.new rfl))).mono ?_
        rintro e w2 ⟨rfl, hb⟩
        have hB2 := up_later (up_alloc hB _) hb
        rw [HS.out]
        have B1 := (B1.alloc (.cells #[.string read] 9)).kept hb
        have c1 := fun i => B1.cell i
        clear hb
        go_wp2_with fail
        go_ret2
        exact textsP_no HR.out (by decide) hB2
      have HR := Lib.hid (show textsE l read E K = 0 by
        unfold textsE
        rw [if_neg (by rw [HE.out]; simp), if_neg (by rw [HS.out]; simp), if_neg]
        unfold rangeB
        simp [a1, a2, a3, a4])
      obtain ⟨n, rfl⟩ : ∃ n : Nat, E = n := ⟨E.toNat, by omega⟩
      obtain ⟨k, rfl⟩ : ∃ k : Nat, K = k := ⟨K.toNat, by omega⟩
      go_enter Tryz.func35, Tryz.ntmps35
      have B1 := Box.new (w := w) (t := 30) (cs := #[.slice A2 l.length cap2]) rfl
      have c1 := fun i => B1.cell i
      go_wp2_with fail
      refine (CheckCode_any (.slice A2 l.length cap2) l _ (HL.out.kept (up_alloc up0 _))).mono ?_
      rintro e w1 ⟨rfl, hb⟩
      have hB := up_later (up_alloc up0 _) hb
      rw [HE.out]
      have B1 := B1.kept hb
      have c1 := fun i => B1.cell i
      clear hb
      go_wp2_with fail
      refine (checkSigns_any _ [read] _ (strs_one (Box.new rfl))).mono ?_
      rintro e w2 ⟨rfl, hb⟩
      have hB2 := up_later (up_alloc hB _) hb
      rw [HS.out]
      have B1 := (B1.alloc (.cells #[.string read] 9)).kept hb
      have c1 := fun i => B1.cell i
      clear hb
      go_wp2_with fail
      have hBn := up_alloc hB2 (.cells #[.slice A2 l.length cap2, .string read, iv (n : Int)] 103)
      refine (rtexts_any (.slice A2 l.length cap2) l read n k _ (HRo.out.kept hBn) hl6 H4.out h40 (by omega)).mono ?_
      rintro e w3 ⟨u, ps, rfl, hT, hP, hb⟩
      have hB3 := up_later hBn hb
      have HT := Lib.hid hT
      have HP := Lib.hid hP
      clear hb hT hP c1 B1
      go_wp2_with fail
      go_ret2
      exact ⟨u, ps, by rw [HR.out]; rfl, HT.out, fun _ => HP.out, fun h => absurd HR.out h, hB3⟩
    · have HR := Lib.hid (show textsE l read E K = D by unfold textsE; rw [if_neg (by rw [HE.out]; simp), if_pos (by rw [hD]; exact d0), hD])
      have e1 : (D == 0) = false := by rw [beq_eq_false_iff_ne]; exact d0
      have e2 : (D != 0) = true := by rw [bne, e1]; rfl
      have HD0 := Lib.hid d0
      clear hD d0
      go_enter Tryz.func35, Tryz.ntmps35
      have B1 := Box.new (w := w) (t := 30) (cs := #[.slice A2 l.length cap2]) rfl
      have c1 := fun i => B1.cell i
      go_wp2_with fail
      refine (CheckCode_any (.slice A2 l.length cap2) l _ (HL.out.kept (up_alloc up0 _))).mono ?_
      rintro e w1 ⟨rfl, hb⟩
      have hB := up_later (up_alloc up0 _) hb
      rw [HE.out]
      have B1 := B1.kept hb
      have c1 := fun i => B1.cell i
      clear hb
      go_wp2_with fail
      refine (checkSigns_any _ [read] _ (strs_one (Box.new rfl))).mono ?_
      rintro e w2 ⟨rfl, hb⟩
      have hB2 := up_later (up_alloc hB _) hb
      rw [HS.out]
      have B1 := (B1.alloc (.cells #[.string read] 9)).kept hb
      have c1 := fun i => B1.cell i
      clear hb
      go_wp2_with fail
      go_ret2
      exact textsP_no HR.out HD0.out hB2
  · have HR := Lib.hid (show textsE l read E K = C by unfold textsE; rw [if_pos (by rw [hC]; exact c0), hC])
    have e1 : (C == 0) = false := by rw [beq_eq_false_iff_ne]; exact c0
    have e2 : (C != 0) = true := by rw [bne, e1]; rfl
    have HC0 := Lib.hid c0
    clear hl hC c0
    go_enter Tryz.func35, Tryz.ntmps35
    have B1 := Box.new (w := w) (t := 30) (cs := #[.slice A2 l.length cap2]) rfl
    have c1 := fun i => B1.cell i
    go_wp2_with fail
    refine (CheckCode_any (.slice A2 l.length cap2) l _ (HL.out.kept (up_alloc up0 _))).mono ?_
    rintro e w1 ⟨rfl, hb⟩
    have hB := up_later (up_alloc up0 _) hb
    rw [HE.out]
    have B1 := B1.kept hb
    have c1 := fun i => B1.cell i
    clear hb
    go_wp2_with fail
    go_ret2
    exact textsP_no HR.out HC0.out hB
end Go.Proofs.YtonekgefegfapaaGreat
