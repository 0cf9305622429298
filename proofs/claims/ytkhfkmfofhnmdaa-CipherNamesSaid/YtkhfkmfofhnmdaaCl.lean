/-
  WALK of '(desk).checkDispatch'; slices of slices. Conditions: the book is valid.
-/
import Derived.Test.YtkhfkmfofhnmdaaCk
namespace Go.Proofs.Ytkhfkmfofhnmdaa
open Go.RowKit

section
variable {P : Program}
theorem gives_slice {o : Oper} {ρ : Operand → Value} {w : World} {K : Value → World → Prop} (t : TypeId) (x : Operand) (lo hi : Option Operand) (ho : o.op = .slice t x lo hi none) (u v : Value) (vlo vhi : Option Value) (hx : ρ x = u)
    (hlo : lo.map ρ = vlo) (hhi : hi.map ρ = vhi) (hr : (Instr.sliceAt t u vlo vhi none).run P w = .ok v w) (hK : K v w) : gives P K ((execOp ρ o).run P w) := by
  unfold execOp
  simp only [ho, hx, hlo, hhi, Option.map_none, Sem.run_bind, Sem.run_pure, hr, Result.andThen_ok]
  exact hK
theorem rows_upto {α : Type} {cells : α → List Value} {sz : Nat} {t e : TypeId} {i : TypeInfo} (ht : P.underlying t = some (.slice e)) (hi : P.info? e = some i) {A : Option Addr} {cap : Nat} {l : List α} {r : Nat} (hr : r ≤ l.length) (hcap : l.length ≤ cap) (k : IntKind) :
    ∃ V, (∀ w, (Instr.sliceAt t (.slice A l.length cap) none (some (.int k (r : Int))) none).run P w = .ok V w) ∧ ∀ w, RowsAt w (.slice A l.length cap) sz cells l → RowsAt w V sz cells (l.take r) := by
  refine ⟨.slice A r cap, fun w => ?_, fun w h => ?_⟩
  · have h0 : (0 : Int) ≤ (r : Int) := by omega
    have h1 : (r : Int) ≤ (cap : Int) := by omega
    have h2 : (if cap = 0 then A else A.map (·.add 0)) = A := by
      split
      · rfl
      · cases A <;> simp [Addr.add]
    simp [Instr.sliceAt, Instr.slice, run_underlying ht, Instr.sliceBounds, run_sliceBound, sizeOf, typeInfo, hi, h0, h1, h2]
  · obtain ⟨hk, A', cap', e1, h2, h3, h4⟩ := h
    cases e1
    have hlen : (l.take r).length = r := by rw [List.length_take]; omega
    refine ⟨by omega, A, cap, by rw [hlen], by omega, h3, fun hne => ?_⟩
    obtain ⟨b, off, rfl, hb, hc⟩ := h4 (fun e => by rw [e] at hne; simp at hne)
    refine ⟨b, off, rfl, hb, fun m x hx j u hu => ?_⟩
    rw [List.getElem?_take] at hx
    split at hx
    · exact hc m x hx j u hu
    · cases hx
theorem rows_between {α : Type} {cells : α → List Value} {sz : Nat} {t e : TypeId} {i : TypeInfo} (ht : P.underlying t = some (.slice e)) (hi : P.info? e = some i) (hs : i.size = sz) {A : Option Addr} {cap : Nat} {l : List α} {r s : Nat} (hrs : r ≤ s) (hr : s ≤ l.length) (hcap : l.length ≤ cap) (k k' : IntKind) :
    ∃ V, (∀ w, (Instr.sliceAt t (.slice A l.length cap) (some (.int k (r : Int))) (some (.int k' (s : Int))) none).run P w = .ok V w) ∧ ∀ w, RowsAt w (.slice A l.length cap) sz cells l → RowsAt w V sz cells ((l.take s).drop r) := by
  refine ⟨.slice (if cap = r then A else A.map (·.add (r * sz))) (s - r) (cap - r), fun w => ?_, fun w h => ?_⟩
  · have h0 : (0 : Int) ≤ (r : Int) := by omega
    have h1 : (r : Int) ≤ (s : Int) := by omega
    have h2 : (0 : Int) ≤ (s : Int) := by omega
    have h3 : (s : Int) ≤ (cap : Int) := by omega
    have h4 : (r : Int) ≤ (cap : Int) := by omega
    simp [Instr.sliceAt, Instr.slice, run_underlying ht, Instr.sliceBounds, run_sliceBound, sizeOf, typeInfo, hi, hs, h0, h2, h3, hrs]
  · obtain ⟨hk, A', cap', e1, h2, h3, h4⟩ := h
    cases e1
    have hlen : ((l.take s).drop r).length = s - r := by rw [List.length_drop, List.length_take]; omega
    refine ⟨by omega, _, _, by rw [hlen], by omega, by omega, fun hne => ?_⟩
    have hlt : r < s := by
      rcases Nat.lt_or_ge r s with h | h
      · exact h
      · exact absurd (List.eq_nil_of_length_eq_zero (by omega)) hne
    obtain ⟨b, off, rfl, hb, hc⟩ := h4 (fun e => by rw [e] at hr; simp at hr; omega)
    refine ⟨b, off + r * sz, ?_, hb, fun m x hx j u hu => ?_⟩
    · rw [if_neg (by omega)]
      unfold Addr.add
      by_cases h : r * sz = 0 <;> simp [h]
    · rw [List.getElem?_drop, List.getElem?_take] at hx
      split at hx
      · have := hc _ x hx j u hu
        rw [Nat.add_mul] at this
        rw [show off + r * sz + m * sz + j = off + (r * sz + m * sz) + j by omega]
        exact this
      · cases hx
end

/-- The error of a dispatch of a day. -/
def dispE (b : Bk) (day : Nat) (l : List Int) : Int :=
  if l.length < 2 ∨ 12 < l.length ∨ l.all (fun x => belowB x b.n) = false then 4
  else if l.headD 0 ≠ indI b day then 8
  else if l.getLastD 0 ≠ checkI b.n l.dropLast then 11 else 0

set_option maxRecDepth 100000 in
set_option maxHeartbeats 1500000 in
theorem checkDispatch_any (v1 v2 v3 v4 : Value) (b : Bk) (day : Nat) (l : List Int) (w : World) (hok : BookOK b) (hL : BookAt w v1 v2 b) (hd : day < b.ds.length) (hl : IntsAt w v4 l) :
    Calls Try.prog 64 #[deskV b v1 v2 v3, iv day, v4] w fun e w' => e = .returned (.int .i64 (dispE b day l)) ∧ Below w.heap.size w w' := by
  obtain ⟨i0, hi0, hz0, hz1, hz2⟩ := info_parts int_info
  obtain ⟨_, A1, cap1, rfl, _, _⟩ := hL.ks.form
  obtain ⟨_, A2, cap2, rfl, _, _⟩ := hL.ds.form
  obtain ⟨hlen, A4, cap4, rfl, hcap, _⟩ := hl.form
  have HL := Lib.hid hL
  have HV := Lib.hid hl
  have HOK := Lib.hid hok
  clear hL hok
  by_cases c1 : l.length < 2
  · have Hfin := Lib.hid (show dispE b day l = 4 by unfold dispE; rw [if_pos (.inl c1)])
    have c1' : (l.length : Int) - 1 < 1 := by omega
    clear hl
    unfold deskV
    go_enter Try.func64, Try.ntmps64
    go_wp2_with fail
    go_ret
    exact ⟨ret_int Hfin.out.symm, up_alloc up0 _⟩
  by_cases c2 : 12 < l.length
  · have Hfin := Lib.hid (show dispE b day l = 4 by unfold dispE; rw [if_pos (.inr (.inl c2))])
    have c1' : ¬ (l.length : Int) - 1 < 1 := by omega
    have c2' : (11 : Int) < (l.length : Int) - 1 := by omega
    clear hl
    unfold deskV
    go_enter Try.func64, Try.ntmps64
    go_wp2_with fail
    go_ret
    exact ⟨ret_int Hfin.out.symm, up_alloc up0 _⟩
  have c1' : ¬ (l.length : Int) - 1 < 1 := by omega
  have c2' : ¬ (11 : Int) < (l.length : Int) - 1 := by omega
  cases c3 : l.all (fun x => belowB x b.n)
  case false =>
    have Hfin := Lib.hid (show dispE b day l = 4 by unfold dispE; rw [if_pos (.inr (.inr c3))])
    have C3 := Lib.hid c3
    clear c3 hl
    unfold deskV
    go_enter Try.func64, Try.ntmps64
    go_wp2_with fail
    refine (every_plain _ l _ (fun x => belowB x b.n) _ (HV.out.kept (up_alloc up0 _)) (fun x _ w1 _ => isPlain_any _ _ _ _ x w1)).mono ?_
    rintro e w1 ⟨rfl, hb⟩
    rw [C3.out]
    go_wp2_with fail
    go_ret
    exact ⟨ret_int Hfin.out.symm, up_later (up_alloc up0 _) hb⟩
  obtain ⟨n, hn⟩ : ∃ n, l.length = n + 1 := ⟨l.length - 1, by omega⟩
  obtain ⟨z0, hx0⟩ : ∃ x, l[0]? = some x := ⟨_, List.getElem?_eq_getElem (by omega)⟩
  obtain ⟨zl, hxl⟩ : ∃ x, l[n]? = some x := ⟨_, List.getElem?_eq_getElem (by omega)⟩
  obtain ⟨bl, ol, rfl, _, _⟩ := hl.at rfl hx0
  have e0 : l.headD 0 = z0 := by cases l <;> simp_all
  have e1 : l.getLastD 0 = zl := by
    rw [List.getLastD_eq_getLast?, List.getLast?_eq_getElem?, hn, Nat.add_sub_cancel, hxl]
    rfl
  have e2 : l.dropLast = l.take n := by rw [List.dropLast_eq_take, hn, Nat.add_sub_cancel]
  have hdisp : dispE b day l = if z0 ≠ indI b day then 8 else if zl ≠ checkI b.n (l.take n) then 11 else 0 := by
    unfold dispE
    rw [if_neg (by intro h; rcases h with h | h | h; exact c1 h; exact c2 h; rw [c3] at h; cases h), e0, e1, e2]
  have hin : ∀ x ∈ l.take n, 0 ≤ x ∧ x ≤ 1000 := fun x hx => by
    have := belowB_iff.1 (List.all_eq_true.1 c3 x (List.mem_of_mem_take hx))
    have := HOK.out.n2
    omega
  have C3 := Lib.hid c3
  have HX0 := Lib.hid hx0
  have HXL := Lib.hid hxl
  have HIN := Lib.hid hin
  have Hdisp := Lib.hid hdisp
  have hd' := hd
  have i0' : (0 : Int) < (l.length : Int) := by omega
  have i0n : 0 < l.length := by omega
  have inn : n < l.length := by omega
  have in0 : (0 : Int) ≤ (n : Int) := by omega
  have in1 : (n : Int) < (l.length : Int) := by omega
  have hlast : (l.length : Int) - 1 = (n : Int) := by omega
  have Hn1 := Lib.hid HOK.out.n1
  obtain ⟨V, hV1, hV2⟩ := rows_upto (P := Try.prog) (cells := ic) (sz := 1) (A := some ⟨bl, ol, none⟩) (cap := cap4) (l := l) (r := n) Try.underlying23 hi0 (by omega) hcap .i64
  have HV1 := Lib.hid hV1
  have HV2 := Lib.hid hV2
  rw [Hdisp.out]
  have Hn := Lib.hid hn
  clear c3 hl hx0 hxl e0 e1 e2 hdisp hin hV1 hV2 c1 c2 hd hn
  by_cases c4 : z0 = indI b day
  case neg =>
    have c4' : (z0 == indI b day) = false := by rw [beq_eq_false_iff_ne]; exact c4
    rw [if_pos c4]
    clear c4
    unfold deskV
    go_enter Try.func64, Try.ntmps64
    go_wp2_with fail
    refine (every_plain _ l _ (fun x => belowB x b.n) _ (HV.out.kept (up_alloc up0 _)) (fun x _ w1 _ => isPlain_any _ _ _ _ x w1)).mono ?_
    rintro e w1 ⟨rfl, hb⟩
    rw [C3.out]
    have hB1 := up_later (up_alloc (up0 (w := w)) (.cells #[iv b.n, iv b.w, .slice A1 b.ks.length cap1, .slice A2 b.ds.length cap2, v3] 98)) hb
    have B3 := (Box.new (w := w) (t := 98) (cs := #[iv b.n, iv b.w, .slice A1 b.ks.length cap1, .slice A2 b.ds.length cap2, v3]) rfl).kept hb
    have HB1 := Lib.hid hB1
    have HV3 := Lib.hid (HV.out.kept hB1)
    have HL3 := Lib.hid (HL.out.kept hB1)
    clear hB1 hb
    go_wp2_with fail
    apply wp_region_by 8 [(Fact.eq _), (Fact.eq _), (Fact.eq _), (Fact.eq _), (Fact.eq _), (Fact.eq _), (Fact.eq _), (Fact.eq _)]
    case hm => kernel_rfl
    case hB => kernel_rfl
    case hA => (intro vs; simp only [List.take_succ_cons, List.take_zero, putAll, if_true, Act.put, List.setIfInBounds_toArray, List.set_cons_zero, List.set_cons_succ]; exact rfl)
    case hstep =>
      intro vs
      refine And.intro (fun w hw hd => ?_) ?_
      · refine ite_yes rfl ?_
        simp only [Gives]
        go_simp
        exact ⟨Below.refl _ _, rfl, fun h => by cases h⟩
      refine And.intro (fun w hw hd => ?_) ?_
      · have d0 := hd 0 (by decide) rfl
        change vs 0 = _ at d0
        refine ite_yes rfl ?_
        simp only [Gives]
        go_simp
        exact ⟨Below.refl _ _, rfl, fun h => by cases h⟩
      refine And.intro (fun w hw hd => ?_) ?_
      · have d1 := hd 1 (by decide) rfl
        change vs 1 = _ at d1
        refine ite_yes rfl ?_
        have c_B3 := fun i => (B3.kept hw).cell i
        have q0 : w.cell? ⟨bl, ol, none⟩ = some (.int .i64 z0) := by simpa using (HV3.out.kept hw).cellAt HX0.out (j := 0) rfl
        simp only [Gives]
        go_simp
        exact ⟨Below.refl _ _, rfl, fun h => by cases h⟩
      refine And.intro (fun w hw hd => ?_) ?_
      · refine ite_yes rfl ?_
        have c_B3 := fun i => (B3.kept hw).cell i
        simp only [Gives]
        go_simp
        exact ⟨Below.refl _ _, rfl, fun h => by cases h⟩
      refine And.intro (fun w hw hd => ?_) ?_
      · refine ite_yes rfl ?_
        simp only [Gives]
        go_simp
        exact ⟨Below.refl _ _, rfl, fun h => by cases h⟩
      refine And.intro (fun w hw hd => ?_) ?_
      · have d3 := hd 3 (by decide) rfl
        change vs 3 = _ at d3
        have d4 := hd 4 (by decide) rfl
        change vs 4 = _ at d4
        refine ite_yes rfl ?_
        simp only [Gives]
        go_simp
        refine (indicator_any _ _ _ b day w HOK.out (HL3.out.kept hw) hd').mono ?_
        rintro e w1 ⟨rfl, hb⟩
        exact ⟨_, rfl, hb, rfl, fun h => by cases h⟩
      refine And.intro (fun w hw hd => ?_) ?_
      · have d2 := hd 2 (by decide) rfl
        change vs 2 = _ at d2
        have d5 := hd 5 (by decide) rfl
        change vs 5 = _ at d5
        refine ite_yes rfl ?_
        simp only [Gives]
        go_simp
        exact ⟨Below.refl _ _, rfl, fun h => by cases h⟩
      refine And.intro (fun w hw hd => ?_) ?_
      · have d6 := hd 6 (by decide) rfl
        change vs 6 = _ at d6
        refine ite_yes rfl ?_
        simp only [Gives]
        go_simp
        exact ⟨Below.refl _ _, rfl, fun h => by cases h⟩
      exact trivial
    intro vs wt hw hd hne hlo
    have d0 := hd 0 (by decide)
    change vs 0 = _ at d0
    have d1 := hd 1 (by decide)
    change vs 1 = _ at d1
    have d2 := hd 2 (by decide)
    change vs 2 = _ at d2
    have d3 := hd 3 (by decide)
    change vs 3 = _ at d3
    have d4 := hd 4 (by decide)
    change vs 4 = _ at d4
    have d5 := hd 5 (by decide)
    change vs 5 = _ at d5
    have d6 := hd 6 (by decide)
    change vs 6 = _ at d6
    have d7 := hd 7 (by decide)
    change vs 7 = _ at d7
    simp only [d0, d1, d2, d3, d4, d5, d6, d7, List.drop_succ_cons, List.drop_nil]
    have B3 := B3.kept hw
    have c_B3 := fun i => B3.cell i
    have f_B3 := fun i => B3.free i
    clear hd hne hlo d0 d1 d2 d3 d4 d5 d6 d7
    go_wp2_with fail
    go_ret
    exact ⟨rfl, up_later HB1.out hw⟩
  have c4' : (z0 == indI b day) = true := by simpa using c4
  rw [if_neg (by simpa using c4)]
  clear c4
  by_cases c5 : zl = checkI b.n (l.take n)
  case neg =>
    have c5' : (zl == checkI b.n (l.take n)) = false := by rw [beq_eq_false_iff_ne]; exact c5
    rw [if_pos c5]
    clear c5
    unfold deskV
    go_enter Try.func64, Try.ntmps64
    go_wp2_with fail
    refine (every_plain _ l _ (fun x => belowB x b.n) _ (HV.out.kept (up_alloc up0 _)) (fun x _ w1 _ => isPlain_any _ _ _ _ x w1)).mono ?_
    rintro e w1 ⟨rfl, hb⟩
    rw [C3.out]
    have hB1 := up_later (up_alloc (up0 (w := w)) (.cells #[iv b.n, iv b.w, .slice A1 b.ks.length cap1, .slice A2 b.ds.length cap2, v3] 98)) hb
    have B3 := (Box.new (w := w) (t := 98) (cs := #[iv b.n, iv b.w, .slice A1 b.ks.length cap1, .slice A2 b.ds.length cap2, v3]) rfl).kept hb
    have HB1 := Lib.hid hB1
    have HV3 := Lib.hid (HV.out.kept hB1)
    have HL3 := Lib.hid (HL.out.kept hB1)
    clear hB1 hb
    go_wp2_with fail
    apply wp_region_by 8 [(Fact.eq _), (Fact.eq _), (Fact.eq _), (Fact.eq _), (Fact.eq _), (Fact.eq _), (Fact.eq _), (Fact.eq _)]
    case hm => kernel_rfl
    case hB => kernel_rfl
    case hA => (intro vs; simp only [List.take_succ_cons, List.take_zero, putAll, if_true, Act.put, List.setIfInBounds_toArray, List.set_cons_zero, List.set_cons_succ]; exact rfl)
    case hstep =>
      intro vs
      refine And.intro (fun w hw hd => ?_) ?_
      · refine ite_yes rfl ?_
        simp only [Gives]
        go_simp
        exact ⟨Below.refl _ _, rfl, fun h => by cases h⟩
      refine And.intro (fun w hw hd => ?_) ?_
      · have d0 := hd 0 (by decide) rfl
        change vs 0 = _ at d0
        refine ite_yes rfl ?_
        simp only [Gives]
        go_simp
        exact ⟨Below.refl _ _, rfl, fun h => by cases h⟩
      refine And.intro (fun w hw hd => ?_) ?_
      · have d1 := hd 1 (by decide) rfl
        change vs 1 = _ at d1
        refine ite_yes rfl ?_
        have c_B3 := fun i => (B3.kept hw).cell i
        have q0 : w.cell? ⟨bl, ol, none⟩ = some (.int .i64 z0) := by simpa using (HV3.out.kept hw).cellAt HX0.out (j := 0) rfl
        simp only [Gives]
        go_simp
        exact ⟨Below.refl _ _, rfl, fun h => by cases h⟩
      refine And.intro (fun w hw hd => ?_) ?_
      · refine ite_yes rfl ?_
        have c_B3 := fun i => (B3.kept hw).cell i
        simp only [Gives]
        go_simp
        exact ⟨Below.refl _ _, rfl, fun h => by cases h⟩
      refine And.intro (fun w hw hd => ?_) ?_
      · refine ite_yes rfl ?_
        simp only [Gives]
        go_simp
        exact ⟨Below.refl _ _, rfl, fun h => by cases h⟩
      refine And.intro (fun w hw hd => ?_) ?_
      · have d3 := hd 3 (by decide) rfl
        change vs 3 = _ at d3
        have d4 := hd 4 (by decide) rfl
        change vs 4 = _ at d4
        refine ite_yes rfl ?_
        simp only [Gives]
        go_simp
        refine (indicator_any _ _ _ b day w HOK.out (HL3.out.kept hw) hd').mono ?_
        rintro e w1 ⟨rfl, hb⟩
        exact ⟨_, rfl, hb, rfl, fun h => by cases h⟩
      refine And.intro (fun w hw hd => ?_) ?_
      · have d2 := hd 2 (by decide) rfl
        change vs 2 = _ at d2
        have d5 := hd 5 (by decide) rfl
        change vs 5 = _ at d5
        refine ite_yes rfl ?_
        simp only [Gives]
        go_simp
        exact ⟨Below.refl _ _, rfl, fun h => by cases h⟩
      refine And.intro (fun w hw hd => ?_) ?_
      · have d6 := hd 6 (by decide) rfl
        change vs 6 = _ at d6
        refine ite_yes rfl ?_
        simp only [Gives]
        go_simp
        exact ⟨Below.refl _ _, rfl, fun h => by cases h⟩
      exact trivial
    intro vs wt hw hd hne hlo
    have d0 := hd 0 (by decide)
    change vs 0 = _ at d0
    have d1 := hd 1 (by decide)
    change vs 1 = _ at d1
    have d2 := hd 2 (by decide)
    change vs 2 = _ at d2
    have d3 := hd 3 (by decide)
    change vs 3 = _ at d3
    have d4 := hd 4 (by decide)
    change vs 4 = _ at d4
    have d5 := hd 5 (by decide)
    change vs 5 = _ at d5
    have d6 := hd 6 (by decide)
    change vs 6 = _ at d6
    have d7 := hd 7 (by decide)
    change vs 7 = _ at d7
    simp only [d0, d1, d2, d3, d4, d5, d6, d7, List.drop_succ_cons, List.drop_nil]
    have B3 := B3.kept hw
    have c_B3 := fun i => B3.cell i
    have f_B3 := fun i => B3.free i
    clear hd hne hlo d0 d1 d2 d3 d4 d5 d6 d7
    go_wp2_with fail
    have Hw := Lib.hid hw
    have HV3 := Lib.hid (HV3.out.kept hw)
    clear hw c_B3 f_B3
    apply wp_region_by 11 [(Fact.eq _), (Fact.eq _), (Fact.eq _), (Fact.eq _), (Fact.eq _), (Fact.eq _), (Fact.eq _), (Fact.eq V), (Fact.eq _), (Fact.eq _), (Fact.eq _)]
    case hm => kernel_rfl
    case hB => kernel_rfl
    case hA => (intro vs; simp only [List.take_succ_cons, List.take_zero, putAll, if_true, Act.put, List.setIfInBounds_toArray, List.set_cons_zero, List.set_cons_succ]; exact rfl)
    case hstep =>
      intro vs
      refine And.intro (fun w hw hd => ?_) ?_
      · refine ite_yes rfl ?_
        simp only [Gives]
        go_simp
        exact ⟨Below.refl _ _, rfl, fun h => by cases h⟩
      refine And.intro (fun w hw hd => ?_) ?_
      · refine ite_yes rfl ?_
        simp only [Gives]
        go_simp
        exact ⟨Below.refl _ _, rfl, fun h => by cases h⟩
      refine And.intro (fun w hw hd => ?_) ?_
      · have d0 := hd 0 (by decide) rfl
        change vs 0 = _ at d0
        have d1 := hd 1 (by decide) rfl
        change vs 1 = _ at d1
        refine ite_yes rfl ?_
        simp only [Gives]
        go_simp
        exact ⟨Below.refl _ _, rfl, fun h => by cases h⟩
      refine And.intro (fun w hw hd => ?_) ?_
      · have d2 := hd 2 (by decide) rfl
        change vs 2 = _ at d2
        refine ite_yes rfl ?_
        have c_B3 := fun i => (B3.kept hw).cell i
        have q0 : w.cell? ⟨bl, ol + n, none⟩ = some (.int .i64 zl) := by simpa using (HV3.out.kept hw).cellAt HXL.out (j := 0) rfl
        simp only [Gives]
        go_simp
        exact ⟨Below.refl _ _, rfl, fun h => by cases h⟩
      refine And.intro (fun w hw hd => ?_) ?_
      · refine ite_yes rfl ?_
        have c_B3 := fun i => (B3.kept hw).cell i
        simp only [Gives]
        go_simp
        exact ⟨Below.refl _ _, rfl, fun h => by cases h⟩
      refine And.intro (fun w hw hd => ?_) ?_
      · refine ite_yes rfl ?_
        simp only [Gives]
        go_simp
        exact ⟨Below.refl _ _, rfl, fun h => by cases h⟩
      refine And.intro (fun w hw hd => ?_) ?_
      · refine ite_yes rfl ?_
        simp only [Gives]
        go_simp
        exact ⟨Below.refl _ _, rfl, fun h => by cases h⟩
      refine And.intro (fun w hw hd => ?_) ?_
      · have d5 := hd 5 (by decide) rfl
        change vs 5 = _ at d5
        have d6 := hd 6 (by decide) rfl
        change vs 6 = _ at d6
        refine ite_yes rfl ?_
        simp only [Gives]
        refine gives_slice 23 (.tmp 40) none (some (.tmp 41)) rfl (.slice (some ⟨bl, ol, none⟩) l.length cap4) V none (some (.int .i64 n)) ?_ rfl ?_ (HV1.out _) ⟨Below.refl _ _, rfl, fun h => by cases h⟩
        all_goals (go_simp)
      refine And.intro (fun w hw hd => ?_) ?_
      · have d4 := hd 4 (by decide) rfl
        change vs 4 = _ at d4
        have d7 := hd 7 (by decide) rfl
        change vs 7 = _ at d7
        refine ite_yes rfl ?_
        simp only [Gives]
        go_simp
        refine (check_any b.n b.w _ _ _ _ (l.take n) w (by have := Hn1.out; omega) (HV2.out _ (HV3.out.kept hw)) HIN.out (by rw [List.length_take]; omega)).mono ?_
        rintro e w1 ⟨rfl, hb⟩
        exact ⟨_, rfl, hb, rfl, fun h => by cases h⟩
      refine And.intro (fun w hw hd => ?_) ?_
      · have d3 := hd 3 (by decide) rfl
        change vs 3 = _ at d3
        have d8 := hd 8 (by decide) rfl
        change vs 8 = _ at d8
        refine ite_yes rfl ?_
        simp only [Gives]
        go_simp
        exact ⟨Below.refl _ _, rfl, fun h => by cases h⟩
      refine And.intro (fun w hw hd => ?_) ?_
      · have d9 := hd 9 (by decide) rfl
        change vs 9 = _ at d9
        refine ite_yes rfl ?_
        simp only [Gives]
        go_simp
        exact ⟨Below.refl _ _, rfl, fun h => by cases h⟩
      exact trivial
    intro vs wt hw hd hne hlo
    have d0 := hd 0 (by decide)
    change vs 0 = _ at d0
    have d1 := hd 1 (by decide)
    change vs 1 = _ at d1
    have d2 := hd 2 (by decide)
    change vs 2 = _ at d2
    have d3 := hd 3 (by decide)
    change vs 3 = _ at d3
    have d4 := hd 4 (by decide)
    change vs 4 = _ at d4
    have d5 := hd 5 (by decide)
    change vs 5 = _ at d5
    have d6 := hd 6 (by decide)
    change vs 6 = _ at d6
    have d7 := hd 7 (by decide)
    change vs 7 = _ at d7
    have d8 := hd 8 (by decide)
    change vs 8 = _ at d8
    have d9 := hd 9 (by decide)
    change vs 9 = _ at d9
    have d10 := hd 10 (by decide)
    change vs 10 = _ at d10
    simp only [d0, d1, d2, d3, d4, d5, d6, d8, d9, d10, List.drop_succ_cons, List.drop_nil]
    have B3 := B3.kept hw
    have c_B3 := fun i => B3.cell i
    have f_B3 := fun i => B3.free i
    clear hd hne hlo d0 d1 d2 d3 d4 d5 d6 d8 d9 d10
    go_wp2_with fail
    go_ret
    exact ⟨rfl, up_later (up_later HB1.out Hw.out) hw⟩
  have c5' : (zl == checkI b.n (l.take n)) = true := by simpa using c5
  rw [if_neg (by simpa using c5)]
  clear c5
  unfold deskV
  go_enter Try.func64, Try.ntmps64
  go_wp2_with fail
  refine (every_plain _ l _ (fun x => belowB x b.n) _ (HV.out.kept (up_alloc up0 _)) (fun x _ w1 _ => isPlain_any _ _ _ _ x w1)).mono ?_
  rintro e w1 ⟨rfl, hb⟩
  rw [C3.out]
  have hB1 := up_later (up_alloc (up0 (w := w)) (.cells #[iv b.n, iv b.w, .slice A1 b.ks.length cap1, .slice A2 b.ds.length cap2, v3] 98)) hb
  have B3 := (Box.new (w := w) (t := 98) (cs := #[iv b.n, iv b.w, .slice A1 b.ks.length cap1, .slice A2 b.ds.length cap2, v3]) rfl).kept hb
  have HB1 := Lib.hid hB1
  have HV3 := Lib.hid (HV.out.kept hB1)
  have HL3 := Lib.hid (HL.out.kept hB1)
  clear hB1 hb
  go_wp2_with fail
  apply wp_region_by 8 [(Fact.eq _), (Fact.eq _), (Fact.eq _), (Fact.eq _), (Fact.eq _), (Fact.eq _), (Fact.eq _), (Fact.eq _)]
  case hm => kernel_rfl
  case hB => kernel_rfl
  case hA => (intro vs; simp only [List.take_succ_cons, List.take_zero, putAll, if_true, Act.put, List.setIfInBounds_toArray, List.set_cons_zero, List.set_cons_succ]; exact rfl)
  case hstep =>
    intro vs
    refine And.intro (fun w hw hd => ?_) ?_
    · refine ite_yes rfl ?_
      simp only [Gives]
      go_simp
      exact ⟨Below.refl _ _, rfl, fun h => by cases h⟩
    refine And.intro (fun w hw hd => ?_) ?_
    · have d0 := hd 0 (by decide) rfl
      change vs 0 = _ at d0
      refine ite_yes rfl ?_
      simp only [Gives]
      go_simp
      exact ⟨Below.refl _ _, rfl, fun h => by cases h⟩
    refine And.intro (fun w hw hd => ?_) ?_
    · have d1 := hd 1 (by decide) rfl
      change vs 1 = _ at d1
      refine ite_yes rfl ?_
      have c_B3 := fun i => (B3.kept hw).cell i
      have q0 : w.cell? ⟨bl, ol, none⟩ = some (.int .i64 z0) := by simpa using (HV3.out.kept hw).cellAt HX0.out (j := 0) rfl
      simp only [Gives]
      go_simp
      exact ⟨Below.refl _ _, rfl, fun h => by cases h⟩
    refine And.intro (fun w hw hd => ?_) ?_
    · refine ite_yes rfl ?_
      have c_B3 := fun i => (B3.kept hw).cell i
      simp only [Gives]
      go_simp
      exact ⟨Below.refl _ _, rfl, fun h => by cases h⟩
    refine And.intro (fun w hw hd => ?_) ?_
    · refine ite_yes rfl ?_
      simp only [Gives]
      go_simp
      exact ⟨Below.refl _ _, rfl, fun h => by cases h⟩
    refine And.intro (fun w hw hd => ?_) ?_
    · have d3 := hd 3 (by decide) rfl
      change vs 3 = _ at d3
      have d4 := hd 4 (by decide) rfl
      change vs 4 = _ at d4
      refine ite_yes rfl ?_
      simp only [Gives]
      go_simp
      refine (indicator_any _ _ _ b day w HOK.out (HL3.out.kept hw) hd').mono ?_
      rintro e w1 ⟨rfl, hb⟩
      exact ⟨_, rfl, hb, rfl, fun h => by cases h⟩
    refine And.intro (fun w hw hd => ?_) ?_
    · have d2 := hd 2 (by decide) rfl
      change vs 2 = _ at d2
      have d5 := hd 5 (by decide) rfl
      change vs 5 = _ at d5
      refine ite_yes rfl ?_
      simp only [Gives]
      go_simp
      exact ⟨Below.refl _ _, rfl, fun h => by cases h⟩
    refine And.intro (fun w hw hd => ?_) ?_
    · have d6 := hd 6 (by decide) rfl
      change vs 6 = _ at d6
      refine ite_yes rfl ?_
      simp only [Gives]
      go_simp
      exact ⟨Below.refl _ _, rfl, fun h => by cases h⟩
    exact trivial
  intro vs wt hw hd hne hlo
  have d0 := hd 0 (by decide)
  change vs 0 = _ at d0
  have d1 := hd 1 (by decide)
  change vs 1 = _ at d1
  have d2 := hd 2 (by decide)
  change vs 2 = _ at d2
  have d3 := hd 3 (by decide)
  change vs 3 = _ at d3
  have d4 := hd 4 (by decide)
  change vs 4 = _ at d4
  have d5 := hd 5 (by decide)
  change vs 5 = _ at d5
  have d6 := hd 6 (by decide)
  change vs 6 = _ at d6
  have d7 := hd 7 (by decide)
  change vs 7 = _ at d7
  simp only [d0, d1, d2, d3, d4, d5, d6, d7, List.drop_succ_cons, List.drop_nil]
  have B3 := B3.kept hw
  have c_B3 := fun i => B3.cell i
  have f_B3 := fun i => B3.free i
  clear hd hne hlo d0 d1 d2 d3 d4 d5 d6 d7
  go_wp2_with fail
  have Hw := Lib.hid hw
  have HV3 := Lib.hid (HV3.out.kept hw)
  clear hw c_B3 f_B3
  apply wp_region_by 11 [(Fact.eq _), (Fact.eq _), (Fact.eq _), (Fact.eq _), (Fact.eq _), (Fact.eq _), (Fact.eq _), (Fact.eq V), (Fact.eq _), (Fact.eq _), (Fact.eq _)]
  case hm => kernel_rfl
  case hB => kernel_rfl
  case hA => (intro vs; simp only [List.take_succ_cons, List.take_zero, putAll, if_true, Act.put, List.setIfInBounds_toArray, List.set_cons_zero, List.set_cons_succ]; exact rfl)
  case hstep =>
    intro vs
    refine And.intro (fun w hw hd => ?_) ?_
    · refine ite_yes rfl ?_
      simp only [Gives]
      go_simp
      exact ⟨Below.refl _ _, rfl, fun h => by cases h⟩
    refine And.intro (fun w hw hd => ?_) ?_
    · refine ite_yes rfl ?_
      simp only [Gives]
      go_simp
      exact ⟨Below.refl _ _, rfl, fun h => by cases h⟩
    refine And.intro (fun w hw hd => ?_) ?_
    · have d0 := hd 0 (by decide) rfl
      change vs 0 = _ at d0
      have d1 := hd 1 (by decide) rfl
      change vs 1 = _ at d1
      refine ite_yes rfl ?_
      simp only [Gives]
      go_simp
      exact ⟨Below.refl _ _, rfl, fun h => by cases h⟩
    refine And.intro (fun w hw hd => ?_) ?_
    · have d2 := hd 2 (by decide) rfl
      change vs 2 = _ at d2
      refine ite_yes rfl ?_
      have c_B3 := fun i => (B3.kept hw).cell i
      have q0 : w.cell? ⟨bl, ol + n, none⟩ = some (.int .i64 zl) := by simpa using (HV3.out.kept hw).cellAt HXL.out (j := 0) rfl
      simp only [Gives]
      go_simp
      exact ⟨Below.refl _ _, rfl, fun h => by cases h⟩
    refine And.intro (fun w hw hd => ?_) ?_
    · refine ite_yes rfl ?_
      have c_B3 := fun i => (B3.kept hw).cell i
      simp only [Gives]
      go_simp
      exact ⟨Below.refl _ _, rfl, fun h => by cases h⟩
    refine And.intro (fun w hw hd => ?_) ?_
    · refine ite_yes rfl ?_
      simp only [Gives]
      go_simp
      exact ⟨Below.refl _ _, rfl, fun h => by cases h⟩
    refine And.intro (fun w hw hd => ?_) ?_
    · refine ite_yes rfl ?_
      simp only [Gives]
      go_simp
      exact ⟨Below.refl _ _, rfl, fun h => by cases h⟩
    refine And.intro (fun w hw hd => ?_) ?_
    · have d5 := hd 5 (by decide) rfl
      change vs 5 = _ at d5
      have d6 := hd 6 (by decide) rfl
      change vs 6 = _ at d6
      refine ite_yes rfl ?_
      simp only [Gives]
      refine gives_slice 23 (.tmp 40) none (some (.tmp 41)) rfl (.slice (some ⟨bl, ol, none⟩) l.length cap4) V none (some (.int .i64 n)) ?_ rfl ?_ (HV1.out _) ⟨Below.refl _ _, rfl, fun h => by cases h⟩
      all_goals (go_simp)
    refine And.intro (fun w hw hd => ?_) ?_
    · have d4 := hd 4 (by decide) rfl
      change vs 4 = _ at d4
      have d7 := hd 7 (by decide) rfl
      change vs 7 = _ at d7
      refine ite_yes rfl ?_
      simp only [Gives]
      go_simp
      refine (check_any b.n b.w _ _ _ _ (l.take n) w (by have := Hn1.out; omega) (HV2.out _ (HV3.out.kept hw)) HIN.out (by rw [List.length_take]; omega)).mono ?_
      rintro e w1 ⟨rfl, hb⟩
      exact ⟨_, rfl, hb, rfl, fun h => by cases h⟩
    refine And.intro (fun w hw hd => ?_) ?_
    · have d3 := hd 3 (by decide) rfl
      change vs 3 = _ at d3
      have d8 := hd 8 (by decide) rfl
      change vs 8 = _ at d8
      refine ite_yes rfl ?_
      simp only [Gives]
      go_simp
      exact ⟨Below.refl _ _, rfl, fun h => by cases h⟩
    refine And.intro (fun w hw hd => ?_) ?_
    · have d9 := hd 9 (by decide) rfl
      change vs 9 = _ at d9
      refine ite_yes rfl ?_
      simp only [Gives]
      go_simp
      exact ⟨Below.refl _ _, rfl, fun h => by cases h⟩
    exact trivial
  intro vs wt hw hd hne hlo
  have d0 := hd 0 (by decide)
  change vs 0 = _ at d0
  have d1 := hd 1 (by decide)
  change vs 1 = _ at d1
  have d2 := hd 2 (by decide)
  change vs 2 = _ at d2
  have d3 := hd 3 (by decide)
  change vs 3 = _ at d3
  have d4 := hd 4 (by decide)
  change vs 4 = _ at d4
  have d5 := hd 5 (by decide)
  change vs 5 = _ at d5
  have d6 := hd 6 (by decide)
  change vs 6 = _ at d6
  have d7 := hd 7 (by decide)
  change vs 7 = _ at d7
  have d8 := hd 8 (by decide)
  change vs 8 = _ at d8
  have d9 := hd 9 (by decide)
  change vs 9 = _ at d9
  have d10 := hd 10 (by decide)
  change vs 10 = _ at d10
  simp only [d0, d1, d2, d3, d4, d5, d6, d8, d9, d10, List.drop_succ_cons, List.drop_nil]
  have B3 := B3.kept hw
  have c_B3 := fun i => B3.cell i
  have f_B3 := fun i => B3.free i
  clear hd hne hlo d0 d1 d2 d3 d4 d5 d6 d8 d9 d10
  go_wp2_with fail
  go_ret
  exact ⟨rfl, up_later (up_later HB1.out Hw.out) hw⟩

end Go.Proofs.Ytkhfkmfofhnmdaa
