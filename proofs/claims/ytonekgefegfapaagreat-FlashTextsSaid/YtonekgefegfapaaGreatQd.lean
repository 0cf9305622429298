/-
  WALKS of the reference's Errors and Explain. Conditions: strings of at most 40 signs each; some steps explain what is read.
-/
import Derived.Test.YtonekgefegfapaaGreatQa
namespace Go.Proofs.YtonekgefegfapaaGreat
open Go.RowKit

theorem Way.left {S R : By} {p q : Nat × Nat} {e : Nat} (h : Way S R p q e) : p.1 ≤ S.length → p.2 ≤ R.length → e + leftN S R q ≤ leftN S R p := by
  induction h with
  | nil p => intro _ _; omega
  | @step p q r k e hk hq _ ih =>
    intro h1 h2
    obtain ⟨i, j⟩ := p
    obtain ⟨a, c⟩ := q
    have hin := aftI_in hk h1 h2 hq
    have := ih hin.2.1 hin.2.2.2.1
    have he : errsN k ≤ 1 := by unfold errsN; split <;> omega
    unfold leftN at this ⊢
    simp only at this h1 h2 ⊢
    omega
theorem few_left {S R : By} {i j : Nat} (hi : i ≤ S.length) (hj : j ≤ R.length) (h : fewI S R (i, j) < 120) : fewI S R (i, j) ≤ leftN S R (i, j) := by
  have := (few_way _ i j (Nat.le_refl _) hi hj h).left hi hj
  omega
/-- The fewest errors of the reference's table. -/
def endsN (S R : By) (p : Nat × Nat) : Nat := if fewI S R p < 120 then fewI S R p else 1000
def firstN (S R : By) (p : Nat × Nat) : Nat := if p = (S.length, R.length) then 0 else 1000
/-- What the reference's table has when so many kinds have been looked at. -/
def tabN (S R : By) (p : Nat × Nat) (n : Nat) : Nat := (nextTo S R p n).foldl (fun e x => min e (errsN x.1 + endsN S R x.2)) (firstN S R p)
theorem tab_zero (S R : By) (p : Nat × Nat) : tabN S R p 0 = firstN S R p := rfl
theorem tab_yes {S R : By} {p q : Nat × Nat} {n : Nat} (h : aftI S R p n = some q) : tabN S R p (n + 1) = min (tabN S R p n) (errsN n + endsN S R q) := by
  unfold tabN
  rw [nextTo_yes h, List.foldl_append]
  rfl
theorem tab_no {S R : By} {p : Nat × Nat} {n : Nat} (h : aftI S R p n = none) : tabN S R p (n + 1) = tabN S R p n := by
  unfold tabN
  rw [nextTo_no h]
theorem ends_le (S R : By) (p : Nat × Nat) : endsN S R p ≤ 1000 := by
  unfold endsN
  split <;> omega
theorem tab_le {S R : By} {p : Nat × Nat} {n : Nat} : tabN S R p n ≤ 1000 := by
  unfold tabN
  refine Nat.le_trans (foldl_le _ _) ?_
  unfold firstN
  split <;> omega
theorem fold_ends {S R : By} (hS : S.length ≤ 40) (hR : R.length ≤ 40) : ∀ (L : List (Nat × Nat × Nat)), (∀ x ∈ L, x.1 < 6 ∧ x.2.1 ≤ S.length ∧ x.2.2 ≤ R.length) → ∀ a a' : Nat, a ≤ 120 → a' = (if a < 120 then a else 1000) →
    L.foldl (fun e x => min e (errsN x.1 + endsN S R x.2)) a' = (if L.foldl (fun e x => min e (errsN x.1 + fewI S R x.2)) a < 120 then L.foldl (fun e x => min e (errsN x.1 + fewI S R x.2)) a else 1000)
  | [], _, a, a', _, h => h
  | x :: L, hL, a, a', ha, h => by
    rw [List.foldl_cons, List.foldl_cons]
    obtain ⟨h1, h2, h3⟩ := hL x (List.mem_cons_self ..)
    refine fold_ends hS hR L (fun y hy => hL y (List.mem_cons_of_mem _ hy)) _ _ (Nat.le_trans (Nat.min_le_left _ _) ha) ?_
    have he : errsN x.1 ≤ 1 := by unfold errsN; split <;> omega
    have h120 : fewI S R x.2 ≤ 120 := fewI_le h2 h3
    unfold endsN
    by_cases hx : fewI S R x.2 < 120
    · have hl := few_left (i := x.2.1) (j := x.2.2) h2 h3 hx
      unfold leftN at hl
      simp only at hl
      have hl2 : fewI S R x.2 ≤ 80 := by
        have : fewI S R (x.2.1, x.2.2) = fewI S R x.2 := rfl
        omega
      rw [if_pos hx, h]
      split <;> split <;> omega
    · rw [if_neg hx, h]
      split <;> split <;> omega
/-- **The reference's table is right.** -/
theorem tab_six {S R : By} (hS : S.length ≤ 40) (hR : R.length ≤ 40) {p : Nat × Nat} (h1 : p.1 ≤ S.length) (h2 : p.2 ≤ R.length) : tabN S R p 6 = endsN S R p := by
  by_cases hp : p = (S.length, R.length)
  · have h0 : tabN S R p 6 ≤ firstN S R p := foldl_le _ _
    unfold firstN at h0
    rw [if_pos hp] at h0
    unfold endsN
    rw [hp] at h0 ⊢
    rw [fewI_end, if_pos (by decide)]
    exact Nat.le_zero.1 h0
  · unfold tabN firstN
    rw [if_neg hp]
    have h := fold_ends hS hR (nextI S R p) (fun x hx => by
      obtain ⟨k, a, c⟩ := x
      obtain ⟨hk, hq⟩ := nextI_mem hx
      obtain ⟨i, j⟩ := p
      have := aftI_in hk h1 h2 hq
      exact ⟨hk, this.2.1, this.2.2.2.1⟩) 120 1000 (Nat.le_refl _) (by simp)
    rw [← fewI_eq h1 h2 hp] at h
    exact h
theorem ends_best {S R : By} {p : Nat × Nat} {x : Nat × Nat × Nat} (hf : fewI S R p < 120) (h3 : x.2.1 ≤ S.length) (h4 : x.2.2 ≤ R.length) : (errsN x.1 + endsN S R x.2 == endsN S R p) = bestB S R p x := by
  have he : errsN x.1 ≤ 1 := by unfold errsN; split <;> omega
  have h120 : fewI S R x.2 ≤ 120 := fewI_le h3 h4
  unfold endsN bestB
  rw [if_pos hf, Bool.eq_iff_iff, beq_iff_eq, beq_iff_eq]
  split <;> omega
end Go.Proofs.YtonekgefegfapaaGreat

namespace Go.Proofs.YtonekgefegfapaaGreat
open Go.RowKit

theorem build139 (w : World) : (Instr.build 139 #[]).run Tryz.prog w = .ok (.agg (rowC (List.replicate 1681 0))) w := by kernel_rfl
section
variable {P : Program}
theorem wpList_gives {ops : Array Oper} {rest : List Oper} {o : Oper} {a : Act} {w w' : World} {Q : Exit → Act → World → Prop} (v : Value) (hgd : o.guard = none) (h : (execOp a.eval o).run P w = .ok (.value v) w') (hK : wpList P ops Q rest (a.put o.dst v) w') : wpList P ops Q (o :: rest) a w :=
  wpList_plain hgd fun K hK' => by
    unfold Oper.wp
    rw [h]
    exact hK' _ _ hK
theorem exec_box {o : Oper} {a : Act} {w : World} (t : TypeId) (x : Operand) (cs : Array Value) (ho : o.op = .box t x) (hx : a.eval x = .agg cs) : (execOp a.eval o).run P w = .ok (.value (.pointer (some ⟨w.heap.size, 0, none⟩))) (w.alloc (.cells cs t)) := by
  unfold execOp
  rw [ho]
  simp only [hx]
  rfl
end
theorem exec_build {o : Oper} {a : Act} {w : World} (ho : o.op = .build 139 #[]) : (execOp a.eval o).run Tryz.prog w = .ok (.value (.agg (rowC (List.replicate 1681 0)))) w := by
  have hp : (#[] : Array (Nat × Operand)).map (fun p => (p.1, a.eval p.2)) = #[] := by simp
  unfold execOp
  simp only [ho, Sem.run_bind, Sem.run_pure, hp, build139, Result.andThen_ok]
theorem step_aft {S R : By} (h : S.all signB = true) {i k q : Nat} (hq : q < 6) : aftI S R (i, k) q = (stepR q (S.drop i) (R.drop k)).map fun p => (i + p.1, k + p.2) := by
  have hd : (S.drop i).all signB = true := List.all_eq_true.2 (fun c hc => List.all_eq_true.1 h c (List.mem_of_mem_drop hc))
  unfold aftI stepR
  rw [if_pos (show 0 ≤ (q : Int) ∧ (q : Int) < 6 by omega), Int.toNat_natCast, needR_signs hd]
  simp only
  split <;> rfl
/-- What is in the table when all places behind (i, k) are filled. -/
structure TabI (S R : By) (i k : Nat) (T : List Nat) : Prop where
  len : T.length = 1681
  done : ∀ a c, a ≤ S.length → c ≤ R.length → (i < a ∨ i = a ∧ k < c) → T[a * 41 + c]? = some (endsN S R (a, c))
theorem TabI.set {S R : By} {i k : Nat} {T : List Nat} (hR : R.length ≤ 40) (hk : k ≤ 40) (h : TabI S R i k T) (x : Nat) : TabI S R i k (T.set (i * 41 + k) x) := by
  refine ⟨by rw [List.length_set]; exact h.len, fun a c ha hc hac => ?_⟩
  rw [List.getElem?_set_ne (by omega)]
  exact h.done a c ha hc hac
theorem box_at {W : World} {g : Nat} {T : List Nat} {n x : Nat} (b : Box W g 139 (rowC T)) (h : T[n]? = some x) : W.cell? ⟨g, n, none⟩ = some (iv x) := by
  rw [b.cell, rowC_get, h]
  rfl
theorem box_set {W : World} {g : Nat} {T : List Nat} {n x : Nat} (b : Box W g 139 (rowC T)) : Box (W.setCell ⟨g, n, none⟩ (iv x)) g 139 (rowC (T.set n x)) := by
  have h := b.put n (iv x)
  rwa [rowC_set] at h
set_option maxRecDepth 100000 in
set_option maxHeartbeats 4000000 in
theorem Ends_any (s r : ByteArray) (w : World) (hs : s.size ≤ 40) (hr : r.size ≤ 40) (hsig : s.data.toList.all signB = true) :
    Calls Tryz.prog 61 #[.string s, .string r] w fun e w' => ∃ g T, e = .returned (.pointer (some ⟨g, 0, none⟩)) ∧ Box w' g 139 (rowC T) ∧ (∀ a c, a ≤ s.size → c ≤ r.size → T[a * 41 + c]? = some (endsN s.data.toList r.data.toList (a, c))) ∧ Below w.heap.size w w' := by
  have hSl : s.data.toList.length = s.size := (Lib.size_eq s).symm
  have hRl : r.data.toList.length = r.size := (Lib.size_eq r).symm
  obtain ⟨S, hS⟩ : ∃ S, s.data.toList = S := ⟨_, rfl⟩
  obtain ⟨R, hR⟩ : ∃ R, r.data.toList = R := ⟨_, rfl⟩
  rw [hS] at hsig hSl ⊢
  rw [hR] at hRl ⊢
  have HS := Lib.hid hS
  have HR := Lib.hid hR
  have HSig := Lib.hid hsig
  have HSl := Lib.hid hSl
  have HRl := Lib.hid hRl
  clear hS hR hsig hSl hRl
  go_enter Tryz.func61, Tryz.ntmps61
  go_upto_region 1 with fail
  refine wp_region_lit ?_
  refine wpList_gives (.agg (rowC (List.replicate 1681 0))) rfl (exec_build rfl) ?_
  obtain ⟨Z, hZ⟩ : ∃ Z, rowC (List.replicate 1681 0) = Z := ⟨_, rfl⟩
  rw [hZ]
  have HZ := Lib.hid hZ
  clear hZ
  refine wpList_gives (.pointer (some ⟨w.heap.size, 0, none⟩)) rfl (exec_box 139 (.tmp 12) Z rfl rfl) ?_
  go_upto_region 3 with fail
  go_loopw [6] (fun i wr => ∃ n : Nat, ∃ T : List Nat, n ≤ s.size + 1 ∧ i = iv ((n : Int) - 1) ∧ Hid (T.length = 1681 ∧ ∀ a c, a ≤ S.length → c ≤ R.length → n ≤ a → T[a * 41 + c]? = some (endsN S R (a, c))) ∧ Hid (Box wr w.heap.size 139 (rowC T)) ∧ Below w.heap.size w wr) (fun i _ => (intOf i + 1).toNat)
  case atStart => exact ⟨s.size + 1, _, by omega, by simp, Lib.hid ⟨List.length_replicate, fun a c ha _ h => by have := HSl.out; omega⟩, Lib.hid (by rw [HZ.out]; exact Box.new rfl), up_alloc up0 _⟩
  case round =>
    obtain ⟨n, T, hn, rfl, HT, HB1, hB⟩ := hrel
    rcases n with _ | i
    · have hc : ¬ (0 : Int) ≤ ((0 : Nat) : Int) - 1 := by omega
      go_wp2_with fail
      go_ret
      exact ⟨_, rfl, T, HB1.out, fun a c ha hc => HT.out.2 a c (by rw [HSl.out]; exact ha) (by rw [HRl.out]; exact hc) (Nat.zero_le _), hB⟩
    · have e0 : (((i + 1 : Nat) : Int)) - 1 = (i : Int) := by omega
      rw [e0]
      have i0 : (0 : Int) ≤ (i : Int) := by omega
      have i41 : (i : Int) < 41 := by omega
      go_wp2_with fail
      go_loopw [7] (fun v wr => ∃ m : Nat, ∃ T : List Nat, m ≤ r.size + 1 ∧ v = iv ((m : Int) - 1) ∧ Hid (T.length = 1681 ∧ ∀ a c, a ≤ S.length → c ≤ R.length → (i < a ∨ i = a ∧ m ≤ c) → T[a * 41 + c]? = some (endsN S R (a, c))) ∧ Hid (Box wr w.heap.size 139 (rowC T)) ∧ Below w.heap.size w wr) (fun v _ => (intOf v + 1).toNat)
      case atStart => exact ⟨r.size + 1, T, by omega, by simp, Lib.hid ⟨HT.out.1, fun a c ha hc h => HT.out.2 a c ha hc (by have := HRl.out; omega)⟩, HB1, hB⟩
      case round =>
        obtain ⟨m, T2, hm, rfl, HT2, HB2, hB2⟩ := hrel
        rcases m with _ | k
        · have hc : ¬ (0 : Int) ≤ ((0 : Nat) : Int) - 1 := by omega
          go_wp2_with fail
          go_roundw
          case rel => exact ⟨i, T2, by omega, by go_num, Lib.hid ⟨HT2.out.1, fun a c ha hc h => HT2.out.2 a c ha hc (by omega)⟩, HB2, hB2⟩
          case measure => simp [intOf] <;> omega
        · have e1 : (((k + 1 : Nat) : Int)) - 1 = (k : Int) := by omega
          rw [e1]
          have k0 : (0 : Int) ≤ (k : Int) := by omega
          have k41 : (k : Int) < 41 := by omega
          have hlen := HT2.out.1
          have hix : i * 41 + k < T2.length := by omega
          have HI0 : Hid (TabI S R i k T2) := Lib.hid ⟨HT2.out.1, fun a c ha hc h => HT2.out.2 a c ha hc (by omega)⟩
          have b2 := HB2.out
          obtain ⟨x0, hx0⟩ : ∃ x, T2[i * 41 + k]? = some x := ⟨_, List.getElem?_eq_getElem hix⟩
          have q0 := box_at b2 hx0
          have f0 := b2.free (i * 41 + k)
          have hfr : Hid (firstN S R (i, k) = if i = s.size ∧ k = r.size then 0 else 1000) := Lib.hid (by
            unfold firstN
            have e : (i, k) = (S.length, R.length) ↔ i = s.size ∧ k = r.size := by rw [Prod.mk.injEq, HSl.out, HRl.out]
            by_cases h : i = s.size ∧ k = r.size
            · rw [if_pos h, if_pos (e.2 h)]
            · rw [if_neg h, if_neg (fun q => h (e.1 q))])
          have hk40 : k ≤ 40 := by omega
          clear hx0 HT HB1 hlen e0 e1
          by_cases hend : i = s.size ∧ k = r.size
          · have h1 : ((i : Int) == (s.size : Int)) = true := by rw [beq_iff_eq]; omega
            have h2 : ((k : Int) == (r.size : Int)) = true := by rw [beq_iff_eq]; omega
            have bS := box_set (x := 1000) (n := i * 41 + k) b2
            have q1 : (wr.setCell ⟨w.heap.size, i * 41 + k, none⟩ (.int .i64 1000)).cell? ⟨w.heap.size, i * 41 + k, none⟩ = some (iv (1000 : Nat)) := box_at bS (by rw [List.getElem?_set_self hix])
            have f1 : (wr.setCell ⟨w.heap.size, i * 41 + k, none⟩ (.int .i64 1000)).frozen? ⟨w.heap.size, i * 41 + k, none⟩ = false := bS.free (i * 41 + k)
            have bS2 := Lib.hid (box_set (x := 0) (n := i * 41 + k) bS)
            have HI2 : Hid (TabI S R i k ((T2.set (i * 41 + k) 1000).set (i * 41 + k) 0)) := Lib.hid ((HI0.out.set (by rw [HRl.out]; exact hr) hk40 1000).set (by rw [HRl.out]; exact hr) hk40 0)
            have HV2 : Hid (((T2.set (i * 41 + k) 1000).set (i * 41 + k) 0)[i * 41 + k]? = some (tabN S R (i, k) 0)) := Lib.hid (by
              rw [List.getElem?_set_self (by rw [List.length_set]; exact hix), tab_zero, hfr.out, if_pos hend])
            have hB3 := up_put (up_put hB2 (p := ⟨w.heap.size, i * 41 + k, none⟩) (Nat.le_refl _) (.int .i64 1000)) (p := ⟨w.heap.size, i * 41 + k, none⟩) (Nat.le_refl _) (.int .i64 0)
            clear hend bS b2
            go_wp2_with fail
            go_loopw [8] (fun v wr => ∃ q : Nat, ∃ T : List Nat, q ≤ 6 ∧ v = iv q ∧ Hid (TabI S R i k T) ∧ Hid (T[i * 41 + k]? = some (tabN S R (i, k) q)) ∧ Hid (Box wr w.heap.size 139 (rowC T)) ∧ Below w.heap.size w wr) (fun v _ => 6 - (intOf v).toNat)
            case atStart => exact ⟨0, (T2.set (i * 41 + k) 1000).set (i * 41 + k) 0, by omega, rfl, HI2, HV2, bS2, hB3⟩
            case round =>
              obtain ⟨q, T3, hq, rfl, HI3, HV3, HB3, hB3⟩ := hrel
              have b3 := HB3.out
              by_cases hq6 : q < 6
              · have hq5 : (q : Int) ≤ 5 := by omega
                have his : i ≤ s.size := by omega
                have hkr : k ≤ r.size := by omega
                have cS := cut_from (A := s) i his
                have cR := cut_from (A := r) k hkr
                obtain ⟨A, hA⟩ : ∃ A, s.extract i s.size = A := ⟨_, rfl⟩
                obtain ⟨B, hBB⟩ : ∃ B, r.extract k r.size = B := ⟨_, rfl⟩
                have hAd : A.data.toList = S.drop i := by
                  rw [← hA]
                  have h := drop_cut (A := s) (S := S) (a := 0) (i := i) HS.out
                  rwa [Nat.zero_add] at h
                have hBd : B.data.toList = R.drop k := by
                  rw [← hBB]
                  have h := drop_cut (A := r) (S := R) (a := 0) (i := k) HR.out
                  rwa [Nat.zero_add] at h
                rw [hA] at cS
                rw [hBB] at cR
                have haft := step_aft (S := S) (R := R) HSig.out (i := i) (k := k) hq6
                rw [← hAd, ← hBd] at haft
                cases hst : stepR q A.data.toList B.data.toList with
                | none =>
                  have HSv := Lib.hid (stepV_none hst)
                  rw [hst] at haft
                  have HN := Lib.hid (show T3[i * 41 + k]? = some (tabN S R (i, k) (q + 1)) by rw [tab_no haft]; exact HV3.out)
                  clear hst haft hAd hBd hA hBB
                  go_wp2_with fail
                  apply wp_region_by 15 [(Fact.eq _), (Fact.eq _), (Fact.eq _), (Fact.eq _), (Fact.eq _), (Fact.eq _), (Fact.eq _), (Fact.eq (.tuple #[.string ⟨#[]⟩, .string ⟨#[]⟩, .bool false])), (Fact.eq _), (Fact.eq _), (Fact.eq _), (Fact.eq _), (Fact.eq _), (Fact.eq _), (Fact.eq _)]
                  case hm => kernel_rfl
                  case hB => kernel_rfl
                  case hA => (intro vs; simp only [List.take_succ_cons, List.take_zero, putAll, if_true, Act.put, List.setIfInBounds_toArray, List.set_cons_zero, List.set_cons_succ]; exact rfl)
                  case hstep =>
                    intro vs
                    refine And.intro (fun w hw hd => ?_) ?_
                    · refine ite_yes rfl ?_
                      simp only [Gives]
                      go_simp
                      exact ⟨Below.refl _ _, rfl, fun h => by cases h⟩
                    refine And.intro (fun w hw hd => ?_) ?_
                    · refine ite_yes rfl ?_
                      simp only [Gives]
                      go_simp
                      exact ⟨Below.refl _ _, rfl, fun h => by cases h⟩
                    refine And.intro (fun w hw hd => ?_) ?_
                    · refine ite_yes rfl ?_
                      simp only [Gives]
                      go_simp
                      exact ⟨Below.refl _ _, rfl, fun h => by cases h⟩
                    refine And.intro (fun w hw hd => ?_) ?_
                    · have d1 := hd 1 (by decide) rfl
                      change vs 1 = _ at d1
                      have d2 := hd 2 (by decide) rfl
                      change vs 2 = _ at d2
                      refine ite_yes rfl ?_
                      simp only [Gives]
                      go_simp
                      exact ⟨Below.refl _ _, rfl, fun h => by cases h⟩
                    refine And.intro (fun w hw hd => ?_) ?_
                    · refine ite_yes rfl ?_
                      simp only [Gives]
                      go_simp
                      exact ⟨Below.refl _ _, rfl, fun h => by cases h⟩
                    refine And.intro (fun w hw hd => ?_) ?_
                    · refine ite_yes rfl ?_
                      simp only [Gives]
                      go_simp
                      exact ⟨Below.refl _ _, rfl, fun h => by cases h⟩
                    refine And.intro (fun w hw hd => ?_) ?_
                    · have d4 := hd 4 (by decide) rfl
                      change vs 4 = _ at d4
                      have d5 := hd 5 (by decide) rfl
                      change vs 5 = _ at d5
                      refine ite_yes rfl ?_
                      simp only [Gives]
                      go_simp
                      exact ⟨Below.refl _ _, rfl, fun h => by cases h⟩
                    refine And.intro (fun w hw hd => ?_) ?_
                    · have d0 := hd 0 (by decide) rfl
                      change vs 0 = _ at d0
                      have d3 := hd 3 (by decide) rfl
                      change vs 3 = _ at d3
                      have d6 := hd 6 (by decide) rfl
                      change vs 6 = _ at d6
                      refine ite_yes rfl ?_
                      simp only [Gives]
                      go_simp
                      refine (Step_any q A B w).mono ?_
                      rintro e w7 ⟨rfl, hb⟩
                      rw [HSv.out]
                      exact ⟨_, rfl, hb, rfl, fun h => by cases h⟩
                    refine And.intro (fun w hw hd => ?_) ?_
                    · have d7 := hd 7 (by decide) rfl
                      change vs 7 = _ at d7
                      refine ite_yes rfl ?_
                      simp only [Gives]
                      go_simp
                      exact ⟨Below.refl _ _, rfl, fun h => by cases h⟩
                    refine And.intro (fun w hw hd => ?_) ?_
                    · have d8 := hd 8 (by decide) rfl
                      change vs 8 = _ at d8
                      refine ite_yes rfl ?_
                      simp only [Gives]
                      go_simp
                      exact ⟨Below.refl _ _, rfl, fun h => by cases h⟩
                    refine And.intro (fun w hw hd => ?_) ?_
                    · have d8 := hd 8 (by decide) rfl
                      change vs 8 = _ at d8
                      refine ite_yes rfl ?_
                      simp only [Gives]
                      go_simp
                      exact ⟨Below.refl _ _, rfl, fun h => by cases h⟩
                    refine And.intro (fun w hw hd => ?_) ?_
                    · have d8 := hd 8 (by decide) rfl
                      change vs 8 = _ at d8
                      refine ite_yes rfl ?_
                      simp only [Gives]
                      go_simp
                      exact ⟨Below.refl _ _, rfl, fun h => by cases h⟩
                    refine And.intro (fun w hw hd => ?_) ?_
                    · have d9 := hd 9 (by decide) rfl
                      change vs 9 = _ at d9
                      refine ite_yes rfl ?_
                      simp only [Gives]
                      go_simp
                      exact ⟨Below.refl _ _, rfl, fun h => by cases h⟩
                    refine And.intro (fun w hw hd => ?_) ?_
                    · have d10 := hd 10 (by decide) rfl
                      change vs 10 = _ at d10
                      refine ite_yes rfl ?_
                      simp only [Gives]
                      go_simp
                      exact ⟨Below.refl _ _, rfl, fun h => by cases h⟩
                    refine And.intro (fun w hw hd => ?_) ?_
                    · have d11 := hd 11 (by decide) rfl
                      change vs 11 = _ at d11
                      refine ite_yes rfl ?_
                      simp only [Gives]
                      go_simp
                      exact ⟨Below.refl _ _, rfl, fun h => by cases h⟩
                    exact trivial
                  intro vs wt hw hd hne hlo
                  have d0 := hd 0 (by decide)
                  change vs 0 = _ at d0
                  have d1 := hd 1 (by decide)
                  change vs 1 = _ at d1
                  have d2 := hd 2 (by decide)
                  change vs 2 = _ at d2
                  have d3 := hd 3 (by decide)
                  change vs 3 = _ at d3
                  have d4 := hd 4 (by decide)
                  change vs 4 = _ at d4
                  have d5 := hd 5 (by decide)
                  change vs 5 = _ at d5
                  have d6 := hd 6 (by decide)
                  change vs 6 = _ at d6
                  have d7 := hd 7 (by decide)
                  change vs 7 = _ at d7
                  have d8 := hd 8 (by decide)
                  change vs 8 = _ at d8
                  have d9 := hd 9 (by decide)
                  change vs 9 = _ at d9
                  have d10 := hd 10 (by decide)
                  change vs 10 = _ at d10
                  have d11 := hd 11 (by decide)
                  change vs 11 = _ at d11
                  have d12 := hd 12 (by decide)
                  change vs 12 = _ at d12
                  have d13 := hd 13 (by decide)
                  change vs 13 = _ at d13
                  have d14 := hd 14 (by decide)
                  change vs 14 = _ at d14
                  simp only [d0, d1, d2, d3, d4, d5, d6, d8, d9, d10, d11, d12, d13, d14, List.drop_succ_cons, List.drop_nil]
                  clear hd hne hlo d0 d1 d2 d3 d4 d5 d6 d8 d9 d10 d11 d12 d13 d14
                  have HB4 := Lib.hid (b3.kept hw)
                  have hB4 := up_later hB3 hw
                  go_wp2_with fail
                  go_roundw
                  case rel => exact ⟨q + 1, T3, by omega, by go_num, HI3, HN, HB4, hB4⟩
                  case measure => simp [intOf]; omega
                | some p =>
                  obtain ⟨x, y⟩ := p
                  have HSv := Lib.hid (stepV_some hst)
                  rw [hst] at haft
                  have hin := aftI_in hq6 (by rw [HSl.out]; exact his) (by rw [HRl.out]; exact hkr) haft
                  obtain ⟨t1, ht1⟩ : ∃ t1, endsN S R (i + x, k + y) = t1 := ⟨_, rfl⟩
                  obtain ⟨t0, ht0⟩ : ∃ t0, tabN S R (i, k) q = t0 := ⟨_, rfl⟩
                  obtain ⟨en, hen⟩ : ∃ en, errsN q = en := ⟨_, rfl⟩
                  have HT0 := Lib.hid ht0
                  have hv3 := HV3.out
                  rw [ht0] at hv3
                  have hd1 : T3[(i + x) * 41 + (k + y)]? = some t1 := by rw [← ht1]; exact HI3.out.done _ _ hin.2.1 hin.2.2.2.1 (by omega)
                  have HTab := Lib.hid (show tabN S R (i, k) (q + 1) = min t0 (en + t1) by rw [tab_yes haft, ht0, ht1, hen])
                  have ht1b : t1 ≤ 1000 := by rw [← ht1]; exact ends_le _ _ _
                  have ht0b : t0 ≤ 1000 := by rw [← ht0]; exact tab_le
                  have henb : en ≤ 1 := by rw [← hen]; unfold errsN; split <;> omega
                  have HEn := Lib.hid (show errsN ((q : Int)).toNat = en by rw [Int.toNat_natCast]; exact hen)
                  have hx1 : i + x ≤ s.size := by rw [← HSl.out]; exact hin.2.1
                  have hy1 : k + y ≤ r.size := by rw [← HRl.out]; exact hin.2.2.2.1
                  obtain ⟨A2, hA2⟩ : ∃ A2, A.extract x A.size = A2 := ⟨_, rfl⟩
                  obtain ⟨B2, hB2x⟩ : ∃ B2, B.extract y B.size = B2 := ⟨_, rfl⟩
                  rw [hA2, hB2x] at HSv
                  have hA2s : A2.size = s.size - (i + x) := by rw [← hA2, ← hA]; simp; omega
                  have hB2s : B2.size = r.size - (k + y) := by rw [← hB2x, ← hBB]; simp; omega
                  have HLen := Lib.hid HI3.out.len
                  clear hst haft hAd hBd hA hBB hA2 hB2x ht0 ht1 hen hin HV3
                  go_wp2_with fail
                  apply wp_region_by 15 [(Fact.eq _), (Fact.eq _), (Fact.eq _), (Fact.eq _), (Fact.eq _), (Fact.eq _), (Fact.eq _), (Fact.eq (.tuple #[.string A2, .string B2, .bool true])), (Fact.eq _), (Fact.eq _), (Fact.eq _), (Fact.eq _), (Fact.eq _), (Fact.eq _), (Fact.eq _)]
                  case hm => kernel_rfl
                  case hB => kernel_rfl
                  case hA => (intro vs; simp only [List.take_succ_cons, List.take_zero, putAll, if_true, Act.put, List.setIfInBounds_toArray, List.set_cons_zero, List.set_cons_succ]; exact rfl)
                  case hstep =>
                    intro vs
                    refine And.intro (fun w hw hd => ?_) ?_
                    · refine ite_yes rfl ?_
                      simp only [Gives]
                      go_simp
                      exact ⟨Below.refl _ _, rfl, fun h => by cases h⟩
                    refine And.intro (fun w hw hd => ?_) ?_
                    · refine ite_yes rfl ?_
                      simp only [Gives]
                      go_simp
                      exact ⟨Below.refl _ _, rfl, fun h => by cases h⟩
                    refine And.intro (fun w hw hd => ?_) ?_
                    · refine ite_yes rfl ?_
                      simp only [Gives]
                      go_simp
                      exact ⟨Below.refl _ _, rfl, fun h => by cases h⟩
                    refine And.intro (fun w hw hd => ?_) ?_
                    · have d1 := hd 1 (by decide) rfl
                      change vs 1 = _ at d1
                      have d2 := hd 2 (by decide) rfl
                      change vs 2 = _ at d2
                      refine ite_yes rfl ?_
                      simp only [Gives]
                      go_simp
                      exact ⟨Below.refl _ _, rfl, fun h => by cases h⟩
                    refine And.intro (fun w hw hd => ?_) ?_
                    · refine ite_yes rfl ?_
                      simp only [Gives]
                      go_simp
                      exact ⟨Below.refl _ _, rfl, fun h => by cases h⟩
                    refine And.intro (fun w hw hd => ?_) ?_
                    · refine ite_yes rfl ?_
                      simp only [Gives]
                      go_simp
                      exact ⟨Below.refl _ _, rfl, fun h => by cases h⟩
                    refine And.intro (fun w hw hd => ?_) ?_
                    · have d4 := hd 4 (by decide) rfl
                      change vs 4 = _ at d4
                      have d5 := hd 5 (by decide) rfl
                      change vs 5 = _ at d5
                      refine ite_yes rfl ?_
                      simp only [Gives]
                      go_simp
                      exact ⟨Below.refl _ _, rfl, fun h => by cases h⟩
                    refine And.intro (fun w hw hd => ?_) ?_
                    · have d0 := hd 0 (by decide) rfl
                      change vs 0 = _ at d0
                      have d3 := hd 3 (by decide) rfl
                      change vs 3 = _ at d3
                      have d6 := hd 6 (by decide) rfl
                      change vs 6 = _ at d6
                      refine ite_yes rfl ?_
                      simp only [Gives]
                      go_simp
                      refine (Step_any q A B w).mono ?_
                      rintro e w7 ⟨rfl, hb⟩
                      rw [HSv.out]
                      exact ⟨_, rfl, hb, rfl, fun h => by cases h⟩
                    refine And.intro (fun w hw hd => ?_) ?_
                    · have d7 := hd 7 (by decide) rfl
                      change vs 7 = _ at d7
                      refine ite_yes rfl ?_
                      simp only [Gives]
                      go_simp
                      exact ⟨Below.refl _ _, rfl, fun h => by cases h⟩
                    refine And.intro (fun w hw hd => ?_) ?_
                    · have d8 := hd 8 (by decide) rfl
                      change vs 8 = _ at d8
                      refine ite_yes rfl ?_
                      simp only [Gives]
                      go_simp
                      exact ⟨Below.refl _ _, rfl, fun h => by cases h⟩
                    refine And.intro (fun w hw hd => ?_) ?_
                    · have d8 := hd 8 (by decide) rfl
                      change vs 8 = _ at d8
                      refine ite_yes rfl ?_
                      simp only [Gives]
                      go_simp
                      exact ⟨Below.refl _ _, rfl, fun h => by cases h⟩
                    refine And.intro (fun w hw hd => ?_) ?_
                    · have d8 := hd 8 (by decide) rfl
                      change vs 8 = _ at d8
                      refine ite_yes rfl ?_
                      simp only [Gives]
                      go_simp
                      exact ⟨Below.refl _ _, rfl, fun h => by cases h⟩
                    refine And.intro (fun w hw hd => ?_) ?_
                    · have d9 := hd 9 (by decide) rfl
                      change vs 9 = _ at d9
                      refine ite_yes rfl ?_
                      simp only [Gives]
                      go_simp
                      exact ⟨Below.refl _ _, rfl, fun h => by cases h⟩
                    refine And.intro (fun w hw hd => ?_) ?_
                    · have d10 := hd 10 (by decide) rfl
                      change vs 10 = _ at d10
                      refine ite_yes rfl ?_
                      simp only [Gives]
                      go_simp
                      exact ⟨Below.refl _ _, rfl, fun h => by cases h⟩
                    refine And.intro (fun w hw hd => ?_) ?_
                    · have d11 := hd 11 (by decide) rfl
                      change vs 11 = _ at d11
                      refine ite_yes rfl ?_
                      simp only [Gives]
                      go_simp
                      exact ⟨Below.refl _ _, rfl, fun h => by cases h⟩
                    exact trivial
                  intro vs wt hw hd hne hlo
                  have d0 := hd 0 (by decide)
                  change vs 0 = _ at d0
                  have d1 := hd 1 (by decide)
                  change vs 1 = _ at d1
                  have d2 := hd 2 (by decide)
                  change vs 2 = _ at d2
                  have d3 := hd 3 (by decide)
                  change vs 3 = _ at d3
                  have d4 := hd 4 (by decide)
                  change vs 4 = _ at d4
                  have d5 := hd 5 (by decide)
                  change vs 5 = _ at d5
                  have d6 := hd 6 (by decide)
                  change vs 6 = _ at d6
                  have d7 := hd 7 (by decide)
                  change vs 7 = _ at d7
                  have d8 := hd 8 (by decide)
                  change vs 8 = _ at d8
                  have d9 := hd 9 (by decide)
                  change vs 9 = _ at d9
                  have d10 := hd 10 (by decide)
                  change vs 10 = _ at d10
                  have d11 := hd 11 (by decide)
                  change vs 11 = _ at d11
                  have d12 := hd 12 (by decide)
                  change vs 12 = _ at d12
                  have d13 := hd 13 (by decide)
                  change vs 13 = _ at d13
                  have d14 := hd 14 (by decide)
                  change vs 14 = _ at d14
                  simp only [d0, d1, d2, d3, d4, d5, d6, d8, d9, d10, d11, d12, d13, d14, List.drop_succ_cons, List.drop_nil]
                  clear hd hne hlo d0 d1 d2 d3 d4 d5 d6 d8 d9 d10 d11 d12 d13 d14
                  have b4 := b3.kept hw
                  have hB4 := up_later hB3 hw
                  clear b3 hB3 hw cS cR
                  go_upto_region 16 with fail
                  obtain ⟨a, ha⟩ : ∃ a, i + x = a := ⟨_, rfl⟩
                  obtain ⟨c, hc⟩ : ∃ c, k + y = c := ⟨_, rfl⟩
                  rw [ha] at hd1 hA2s hx1
                  rw [hc] at hd1 hB2s hy1
                  have q0 := box_at b4 hv3
                  have q1 := box_at b4 hd1
                  have f0 := b4.free (i * 41 + k)
                  have hlt := b4.lt
                  have P0 := Lib.hid (show ∀ W', Below wt.heap.size wt W' → W'.cell? ⟨w.heap.size, i * 41 + k, none⟩ = some (iv t0) from fun W' h => (h.cell (p := ⟨w.heap.size, i * 41 + k, none⟩) hlt).trans q0)
                  have P1 := Lib.hid (show ∀ W', Below wt.heap.size wt W' → W'.cell? ⟨w.heap.size, a * 41 + c, none⟩ = some (iv t1) from fun W' h => (h.cell (p := ⟨w.heap.size, a * 41 + c, none⟩) hlt).trans q1)
                  have hW1 : IntKind.i64.wrap ((s.size : Int) - (A2.size : Int)) = (a : Int) := by rw [wrapK_in _ 3000 (by omega) (by omega)]; omega
                  have hW2 : IntKind.i64.wrap ((r.size : Int) - (B2.size : Int)) = (c : Int) := by rw [wrapK_in _ 3000 (by omega) (by omega)]; omega
                  have hW3 : IntKind.i64.wrap ((en : Int) + (t1 : Int)) = (en : Int) + (t1 : Int) := wrapK_in _ 3000 (by omega) (by omega)
                  have i0x : (0 : Int) ≤ (a : Int) := by omega
                  have i1x : (a : Int) < 41 := by omega
                  have k0y : (0 : Int) ≤ (c : Int) := by omega
                  have k1y : (c : Int) < 41 := by omega
                  have hQ0 : (0 : Int) ≤ (q : Int) := by omega
                  have HMin := Lib.hid (show min (t0 : Int) ((en : Int) + (t1 : Int)) = ((min t0 (en + t1) : Nat) : Int) by omega)
                  clear hv3 hd1 hA2s hB2s hx1 hy1 ht1b ht0b henb q0 q1 ha hc
                  apply wp_region_by 32 [(Fact.eq _), (Fact.eq _), (Fact.eq _), (Fact.eq _), (Fact.eq _), (Fact.eq _), (Fact.eq _), (Fact.eq _), (Fact.eq _), (Fact.eq _), (Fact.eq _), (Fact.eq (iv en)), (Fact.eq _), (Fact.eq _), (Fact.eq _), (Fact.eq _), (Fact.eq _), (Fact.eq (.int .i64 (a : Int))), (Fact.eq _), (Fact.eq _), (Fact.eq _), (Fact.eq _), (Fact.eq (.int .i64 (c : Int))), (Fact.eq _), (Fact.eq _), (Fact.eq _), (Fact.eq _), (Fact.eq (.int .i64 ((en : Int) + (t1 : Int)))), (Fact.eq (iv (min t0 (en + t1) : Nat))), (Fact.eq _), (Fact.eq _), (Fact.eq _)]
                  case hm => kernel_rfl
                  case hB => kernel_rfl
                  case hA => (intro vs; simp only [List.take_succ_cons, List.take_zero, putAll, if_true, Act.put, List.setIfInBounds_toArray, List.set_cons_zero, List.set_cons_succ]; exact rfl)
                  case hstep =>
                    intro vs
                    refine And.intro (fun w hw hd => ?_) ?_
                    · refine ite_yes rfl ?_
                      simp only [Gives]
                      go_simp
                      exact ⟨Below.refl _ _, rfl, fun h => by cases h⟩
                    refine And.intro (fun w hw hd => ?_) ?_
                    · refine ite_yes rfl ?_
                      simp only [Gives]
                      go_simp
                      exact ⟨Below.refl _ _, rfl, fun h => by cases h⟩
                    refine And.intro (fun w hw hd => ?_) ?_
                    · refine ite_yes rfl ?_
                      simp only [Gives]
                      go_simp
                      exact ⟨Below.refl _ _, rfl, fun h => by cases h⟩
                    refine And.intro (fun w hw hd => ?_) ?_
                    · refine ite_yes rfl ?_
                      simp only [Gives]
                      go_simp
                      exact ⟨Below.refl _ _, rfl, fun h => by cases h⟩
                    refine And.intro (fun w hw hd => ?_) ?_
                    · refine ite_yes rfl ?_
                      simp only [Gives]
                      go_simp
                      exact ⟨Below.refl _ _, rfl, fun h => by cases h⟩
                    refine And.intro (fun w hw hd => ?_) ?_
                    · refine ite_yes rfl ?_
                      simp only [Gives]
                      go_simp
                      exact ⟨Below.refl _ _, rfl, fun h => by cases h⟩
                    refine And.intro (fun w hw hd => ?_) ?_
                    · have d3 := hd 3 (by decide) rfl
                      change vs 3 = _ at d3
                      refine ite_yes rfl ?_
                      simp only [Gives]
                      go_simp
                      exact ⟨Below.refl _ _, rfl, fun h => by cases h⟩
                    refine And.intro (fun w hw hd => ?_) ?_
                    · have d6 := hd 6 (by decide) rfl
                      change vs 6 = _ at d6
                      have d4 := hd 4 (by decide) rfl
                      change vs 4 = _ at d4
                      refine ite_yes rfl ?_
                      simp only [Gives]
                      go_simp
                      exact ⟨Below.refl _ _, rfl, fun h => by cases h⟩
                    refine And.intro (fun w hw hd => ?_) ?_
                    · have d7 := hd 7 (by decide) rfl
                      change vs 7 = _ at d7
                      have d5 := hd 5 (by decide) rfl
                      change vs 5 = _ at d5
                      refine ite_yes rfl ?_
                      simp only [Gives]
                      go_simp
                      exact ⟨Below.refl _ _, rfl, fun h => by cases h⟩
                    refine And.intro (fun w hw hd => ?_) ?_
                    · have d8 := hd 8 (by decide) rfl
                      change vs 8 = _ at d8
                      refine ite_yes rfl ?_
                      have p0 := P0.out w hw
                      have p1 := P1.out w hw
                      simp only [Gives]
                      go_simp
                      exact ⟨Below.refl _ _, rfl, fun h => by cases h⟩
                    refine And.intro (fun w hw hd => ?_) ?_
                    · refine ite_yes rfl ?_
                      simp only [Gives]
                      go_simp
                      exact ⟨Below.refl _ _, rfl, fun h => by cases h⟩
                    refine And.intro (fun w hw hd => ?_) ?_
                    · have d10 := hd 10 (by decide) rfl
                      change vs 10 = _ at d10
                      refine ite_yes rfl ?_
                      simp only [Gives]
                      go_simp
                      refine (Cost_any q w hQ0).mono ?_
                      rintro e w7 ⟨rfl, hb⟩
                      rw [HEn.out]
                      exact ⟨_, rfl, hb, rfl, fun h => by cases h⟩
                    refine And.intro (fun w hw hd => ?_) ?_
                    · refine ite_yes rfl ?_
                      simp only [Gives]
                      go_simp
                      exact ⟨Below.refl _ _, rfl, fun h => by cases h⟩
                    refine And.intro (fun w hw hd => ?_) ?_
                    · refine ite_yes rfl ?_
                      simp only [Gives]
                      go_simp
                      exact ⟨Below.refl _ _, rfl, fun h => by cases h⟩
                    refine And.intro (fun w hw hd => ?_) ?_
                    · have d13 := hd 13 (by decide) rfl
                      change vs 13 = _ at d13
                      refine ite_yes rfl ?_
                      simp only [Gives]
                      go_simp
                      exact ⟨Below.refl _ _, rfl, fun h => by cases h⟩
                    refine And.intro (fun w hw hd => ?_) ?_
                    · refine ite_yes rfl ?_
                      simp only [Gives]
                      go_simp
                      exact ⟨Below.refl _ _, rfl, fun h => by cases h⟩
                    refine And.intro (fun w hw hd => ?_) ?_
                    · have d15 := hd 15 (by decide) rfl
                      change vs 15 = _ at d15
                      refine ite_yes rfl ?_
                      simp only [Gives]
                      go_simp
                      exact ⟨Below.refl _ _, rfl, fun h => by cases h⟩
                    refine And.intro (fun w hw hd => ?_) ?_
                    · have d14 := hd 14 (by decide) rfl
                      change vs 14 = _ at d14
                      have d16 := hd 16 (by decide) rfl
                      change vs 16 = _ at d16
                      refine ite_yes rfl ?_
                      simp only [Gives]
                      go_simp
                      (try rw [hW1])
                      exact ⟨Below.refl _ _, rfl, fun h => by cases h⟩
                    refine And.intro (fun w hw hd => ?_) ?_
                    · refine ite_yes rfl ?_
                      simp only [Gives]
                      go_simp
                      exact ⟨Below.refl _ _, rfl, fun h => by cases h⟩
                    refine And.intro (fun w hw hd => ?_) ?_
                    · have d18 := hd 18 (by decide) rfl
                      change vs 18 = _ at d18
                      refine ite_yes rfl ?_
                      simp only [Gives]
                      go_simp
                      exact ⟨Below.refl _ _, rfl, fun h => by cases h⟩
                    refine And.intro (fun w hw hd => ?_) ?_
                    · refine ite_yes rfl ?_
                      simp only [Gives]
                      go_simp
                      exact ⟨Below.refl _ _, rfl, fun h => by cases h⟩
                    refine And.intro (fun w hw hd => ?_) ?_
                    · have d20 := hd 20 (by decide) rfl
                      change vs 20 = _ at d20
                      refine ite_yes rfl ?_
                      simp only [Gives]
                      go_simp
                      exact ⟨Below.refl _ _, rfl, fun h => by cases h⟩
                    refine And.intro (fun w hw hd => ?_) ?_
                    · have d19 := hd 19 (by decide) rfl
                      change vs 19 = _ at d19
                      have d21 := hd 21 (by decide) rfl
                      change vs 21 = _ at d21
                      refine ite_yes rfl ?_
                      simp only [Gives]
                      go_simp
                      (try rw [hW2])
                      exact ⟨Below.refl _ _, rfl, fun h => by cases h⟩
                    refine And.intro (fun w hw hd => ?_) ?_
                    · have d12 := hd 12 (by decide) rfl
                      change vs 12 = _ at d12
                      refine ite_yes rfl ?_
                      simp only [Gives]
                      go_simp
                      exact ⟨Below.refl _ _, rfl, fun h => by cases h⟩
                    refine And.intro (fun w hw hd => ?_) ?_
                    · have d23 := hd 23 (by decide) rfl
                      change vs 23 = _ at d23
                      have d17 := hd 17 (by decide) rfl
                      change vs 17 = _ at d17
                      refine ite_yes rfl ?_
                      simp only [Gives]
                      go_simp
                      exact ⟨Below.refl _ _, rfl, fun h => by cases h⟩
                    refine And.intro (fun w hw hd => ?_) ?_
                    · have d24 := hd 24 (by decide) rfl
                      change vs 24 = _ at d24
                      have d22 := hd 22 (by decide) rfl
                      change vs 22 = _ at d22
                      refine ite_yes rfl ?_
                      simp only [Gives]
                      go_simp
                      exact ⟨Below.refl _ _, rfl, fun h => by cases h⟩
                    refine And.intro (fun w hw hd => ?_) ?_
                    · have d25 := hd 25 (by decide) rfl
                      change vs 25 = _ at d25
                      refine ite_yes rfl ?_
                      have p0 := P0.out w hw
                      have p1 := P1.out w hw
                      simp only [Gives]
                      go_simp
                      exact ⟨Below.refl _ _, rfl, fun h => by cases h⟩
                    refine And.intro (fun w hw hd => ?_) ?_
                    · have d11 := hd 11 (by decide) rfl
                      change vs 11 = _ at d11
                      have d26 := hd 26 (by decide) rfl
                      change vs 26 = _ at d26
                      refine ite_yes rfl ?_
                      simp only [Gives]
                      go_simp
                      (try rw [hW3])
                      exact ⟨Below.refl _ _, rfl, fun h => by cases h⟩
                    refine And.intro (fun w hw hd => ?_) ?_
                    · have d9 := hd 9 (by decide) rfl
                      change vs 9 = _ at d9
                      have d27 := hd 27 (by decide) rfl
                      change vs 27 = _ at d27
                      refine ite_yes rfl ?_
                      simp only [Gives]
                      go_simp
                      exact ⟨Below.refl _ _, congrArg (Value.int .i64) HMin.out, fun h => by cases h⟩
                    refine And.intro (fun w hw hd => ?_) ?_
                    · have d0 := hd 0 (by decide) rfl
                      change vs 0 = _ at d0
                      refine ite_yes rfl ?_
                      simp only [Gives]
                      go_simp
                      exact ⟨Below.refl _ _, rfl, fun h => by cases h⟩
                    refine And.intro (fun w hw hd => ?_) ?_
                    · have d29 := hd 29 (by decide) rfl
                      change vs 29 = _ at d29
                      have d1 := hd 1 (by decide) rfl
                      change vs 1 = _ at d1
                      refine ite_yes rfl ?_
                      simp only [Gives]
                      go_simp
                      exact ⟨Below.refl _ _, rfl, fun h => by cases h⟩
                    refine And.intro (fun w hw hd => ?_) ?_
                    · have d30 := hd 30 (by decide) rfl
                      change vs 30 = _ at d30
                      have d2 := hd 2 (by decide) rfl
                      change vs 2 = _ at d2
                      refine ite_yes rfl ?_
                      simp only [Gives]
                      go_simp
                      exact ⟨Below.refl _ _, rfl, fun h => by cases h⟩
                    exact trivial
                  intro vs wt hw hd hne hlo
                  have d0 := hd 0 (by decide)
                  change vs 0 = _ at d0
                  have d1 := hd 1 (by decide)
                  change vs 1 = _ at d1
                  have d2 := hd 2 (by decide)
                  change vs 2 = _ at d2
                  have d3 := hd 3 (by decide)
                  change vs 3 = _ at d3
                  have d4 := hd 4 (by decide)
                  change vs 4 = _ at d4
                  have d5 := hd 5 (by decide)
                  change vs 5 = _ at d5
                  have d6 := hd 6 (by decide)
                  change vs 6 = _ at d6
                  have d7 := hd 7 (by decide)
                  change vs 7 = _ at d7
                  have d8 := hd 8 (by decide)
                  change vs 8 = _ at d8
                  have d9 := hd 9 (by decide)
                  change vs 9 = _ at d9
                  have d10 := hd 10 (by decide)
                  change vs 10 = _ at d10
                  have d11 := hd 11 (by decide)
                  change vs 11 = _ at d11
                  have d12 := hd 12 (by decide)
                  change vs 12 = _ at d12
                  have d13 := hd 13 (by decide)
                  change vs 13 = _ at d13
                  have d14 := hd 14 (by decide)
                  change vs 14 = _ at d14
                  have d15 := hd 15 (by decide)
                  change vs 15 = _ at d15
                  have d16 := hd 16 (by decide)
                  change vs 16 = _ at d16
                  have d17 := hd 17 (by decide)
                  change vs 17 = _ at d17
                  have d18 := hd 18 (by decide)
                  change vs 18 = _ at d18
                  have d19 := hd 19 (by decide)
                  change vs 19 = _ at d19
                  have d20 := hd 20 (by decide)
                  change vs 20 = _ at d20
                  have d21 := hd 21 (by decide)
                  change vs 21 = _ at d21
                  have d22 := hd 22 (by decide)
                  change vs 22 = _ at d22
                  have d23 := hd 23 (by decide)
                  change vs 23 = _ at d23
                  have d24 := hd 24 (by decide)
                  change vs 24 = _ at d24
                  have d25 := hd 25 (by decide)
                  change vs 25 = _ at d25
                  have d26 := hd 26 (by decide)
                  change vs 26 = _ at d26
                  have d27 := hd 27 (by decide)
                  change vs 27 = _ at d27
                  have d28 := hd 28 (by decide)
                  change vs 28 = _ at d28
                  have d29 := hd 29 (by decide)
                  change vs 29 = _ at d29
                  have d30 := hd 30 (by decide)
                  change vs 30 = _ at d30
                  have d31 := hd 31 (by decide)
                  change vs 31 = _ at d31
                  simp only [d0, d1, d2, d3, d4, d5, d6, d7, d8, d9, d10, d12, d13, d14, d15, d16, d18, d19, d20, d21, d23, d24, d25, d26, d29, d30, d31, List.drop_succ_cons, List.drop_zero]
                  clear hd hne hlo d0 d1 d2 d3 d4 d5 d6 d7 d8 d9 d10 d12 d13 d14 d15 d16 d18 d19 d20 d21 d23 d24 d25 d26 d29 d30 d31
                  have b5 := b4.kept hw
                  have p0 := P0.out _ hw
                  have f0 := b5.free (i * 41 + k)
                  have hB5 := up_later hB4 hw
                  have HB6 := Lib.hid (box_set (x := min t0 (en + t1)) (n := i * 41 + k) b5)
                  have hB6 := up_put hB5 (p := ⟨w.heap.size, i * 41 + k, none⟩) (Nat.le_refl _) (iv (min t0 (en + t1) : Nat))
                  have HI6 := Lib.hid (HI3.out.set (by rw [HRl.out]; exact hr) hk40 (min t0 (en + t1)))
                  have HV6 : Hid ((T3.set (i * 41 + k) (min t0 (en + t1)))[i * 41 + k]? = some (tabN S R (i, k) (q + 1))) := Lib.hid (by
                    rw [List.getElem?_set_self (by rw [HLen.out]; omega), HTab.out])
                  clear hw b5 b4 hB5 hB4
                  go_wp2_with fail
                  go_roundw
                  case rel => exact ⟨q + 1, _, by omega, by go_num, HI6, HV6, HB6, hB6⟩
                  case measure => simp [intOf]; omega
              · have hq5 : ¬ (q : Int) ≤ 5 := by omega
                obtain rfl : q = 6 := by omega
                have HD := Lib.hid (show T3.length = 1681 ∧ ∀ a c, a ≤ S.length → c ≤ R.length → (i < a ∨ i = a ∧ k ≤ c) → T3[a * 41 + c]? = some (endsN S R (a, c)) from ⟨HI3.out.len, fun a c ha hc h => by
                  by_cases he : i = a ∧ k = c
                  · obtain ⟨rfl, rfl⟩ := he
                    rw [← tab_six (by rw [HSl.out]; exact hs) (by rw [HRl.out]; exact hr) (p := (i, k)) ha hc]
                    exact HV3.out
                  · exact HI3.out.done a c ha hc (by omega)⟩)
                go_wp2_with fail
                go_roundw
                case rel => exact ⟨k, T3, by omega, by go_num, HD, HB3, hB3⟩
                case measure => simp [intOf] <;> omega
          · have bS := Lib.hid (box_set (x := 1000) (n := i * 41 + k) b2)
            have HI2 := Lib.hid (HI0.out.set (by rw [HRl.out]; exact hr) hk40 1000)
            have HV2 : Hid ((T2.set (i * 41 + k) 1000)[i * 41 + k]? = some (tabN S R (i, k) 0)) := Lib.hid (by
              rw [List.getElem?_set_self hix, tab_zero, hfr.out, if_neg hend])
            have hB3 := up_put hB2 (p := ⟨w.heap.size, i * 41 + k, none⟩) (Nat.le_refl _) (.int .i64 1000)
            by_cases hi : i = s.size
            · have h1 : ((i : Int) == (s.size : Int)) = true := by rw [beq_iff_eq]; omega
              have h2 : ((k : Int) == (r.size : Int)) = false := by rw [beq_eq_false_iff_ne]; omega
              clear hend b2 hi
              go_wp2_with fail
              go_loopw [8] (fun v wr => ∃ q : Nat, ∃ T : List Nat, q ≤ 6 ∧ v = iv q ∧ Hid (TabI S R i k T) ∧ Hid (T[i * 41 + k]? = some (tabN S R (i, k) q)) ∧ Hid (Box wr w.heap.size 139 (rowC T)) ∧ Below w.heap.size w wr) (fun v _ => 6 - (intOf v).toNat)
              case atStart => exact ⟨0, T2.set (i * 41 + k) 1000, by omega, rfl, HI2, HV2, bS, hB3⟩
              case round =>
                obtain ⟨q, T3, hq, rfl, HI3, HV3, HB3, hB3⟩ := hrel
                have b3 := HB3.out
                by_cases hq6 : q < 6
                · have hq5 : (q : Int) ≤ 5 := by omega
                  have his : i ≤ s.size := by omega
                  have hkr : k ≤ r.size := by omega
                  have cS := cut_from (A := s) i his
                  have cR := cut_from (A := r) k hkr
                  obtain ⟨A, hA⟩ : ∃ A, s.extract i s.size = A := ⟨_, rfl⟩
                  obtain ⟨B, hBB⟩ : ∃ B, r.extract k r.size = B := ⟨_, rfl⟩
                  have hAd : A.data.toList = S.drop i := by
                    rw [← hA]
                    have h := drop_cut (A := s) (S := S) (a := 0) (i := i) HS.out
                    rwa [Nat.zero_add] at h
                  have hBd : B.data.toList = R.drop k := by
                    rw [← hBB]
                    have h := drop_cut (A := r) (S := R) (a := 0) (i := k) HR.out
                    rwa [Nat.zero_add] at h
                  rw [hA] at cS
                  rw [hBB] at cR
                  have haft := step_aft (S := S) (R := R) HSig.out (i := i) (k := k) hq6
                  rw [← hAd, ← hBd] at haft
                  cases hst : stepR q A.data.toList B.data.toList with
                  | none =>
                    have HSv := Lib.hid (stepV_none hst)
                    rw [hst] at haft
                    have HN := Lib.hid (show T3[i * 41 + k]? = some (tabN S R (i, k) (q + 1)) by rw [tab_no haft]; exact HV3.out)
                    clear hst haft hAd hBd hA hBB
                    go_wp2_with fail
                    apply wp_region_by 15 [(Fact.eq _), (Fact.eq _), (Fact.eq _), (Fact.eq _), (Fact.eq _), (Fact.eq _), (Fact.eq _), (Fact.eq (.tuple #[.string ⟨#[]⟩, .string ⟨#[]⟩, .bool false])), (Fact.eq _), (Fact.eq _), (Fact.eq _), (Fact.eq _), (Fact.eq _), (Fact.eq _), (Fact.eq _)]
                    case hm => kernel_rfl
                    case hB => kernel_rfl
                    case hA => (intro vs; simp only [List.take_succ_cons, List.take_zero, putAll, if_true, Act.put, List.setIfInBounds_toArray, List.set_cons_zero, List.set_cons_succ]; exact rfl)
                    case hstep =>
                      intro vs
                      refine And.intro (fun w hw hd => ?_) ?_
                      · refine ite_yes rfl ?_
                        simp only [Gives]
                        go_simp
                        exact ⟨Below.refl _ _, rfl, fun h => by cases h⟩
                      refine And.intro (fun w hw hd => ?_) ?_
                      · refine ite_yes rfl ?_
                        simp only [Gives]
                        go_simp
                        exact ⟨Below.refl _ _, rfl, fun h => by cases h⟩
                      refine And.intro (fun w hw hd => ?_) ?_
                      · refine ite_yes rfl ?_
                        simp only [Gives]
                        go_simp
                        exact ⟨Below.refl _ _, rfl, fun h => by cases h⟩
                      refine And.intro (fun w hw hd => ?_) ?_
                      · have d1 := hd 1 (by decide) rfl
                        change vs 1 = _ at d1
                        have d2 := hd 2 (by decide) rfl
                        change vs 2 = _ at d2
                        refine ite_yes rfl ?_
                        simp only [Gives]
                        go_simp
                        exact ⟨Below.refl _ _, rfl, fun h => by cases h⟩
                      refine And.intro (fun w hw hd => ?_) ?_
                      · refine ite_yes rfl ?_
                        simp only [Gives]
                        go_simp
                        exact ⟨Below.refl _ _, rfl, fun h => by cases h⟩
                      refine And.intro (fun w hw hd => ?_) ?_
                      · refine ite_yes rfl ?_
                        simp only [Gives]
                        go_simp
                        exact ⟨Below.refl _ _, rfl, fun h => by cases h⟩
                      refine And.intro (fun w hw hd => ?_) ?_
                      · have d4 := hd 4 (by decide) rfl
                        change vs 4 = _ at d4
                        have d5 := hd 5 (by decide) rfl
                        change vs 5 = _ at d5
                        refine ite_yes rfl ?_
                        simp only [Gives]
                        go_simp
                        exact ⟨Below.refl _ _, rfl, fun h => by cases h⟩
                      refine And.intro (fun w hw hd => ?_) ?_
                      · have d0 := hd 0 (by decide) rfl
                        change vs 0 = _ at d0
                        have d3 := hd 3 (by decide) rfl
                        change vs 3 = _ at d3
                        have d6 := hd 6 (by decide) rfl
                        change vs 6 = _ at d6
                        refine ite_yes rfl ?_
                        simp only [Gives]
                        go_simp
                        refine (Step_any q A B w).mono ?_
                        rintro e w7 ⟨rfl, hb⟩
                        rw [HSv.out]
                        exact ⟨_, rfl, hb, rfl, fun h => by cases h⟩
                      refine And.intro (fun w hw hd => ?_) ?_
                      · have d7 := hd 7 (by decide) rfl
                        change vs 7 = _ at d7
                        refine ite_yes rfl ?_
                        simp only [Gives]
                        go_simp
                        exact ⟨Below.refl _ _, rfl, fun h => by cases h⟩
                      refine And.intro (fun w hw hd => ?_) ?_
                      · have d8 := hd 8 (by decide) rfl
                        change vs 8 = _ at d8
                        refine ite_yes rfl ?_
                        simp only [Gives]
                        go_simp
                        exact ⟨Below.refl _ _, rfl, fun h => by cases h⟩
                      refine And.intro (fun w hw hd => ?_) ?_
                      · have d8 := hd 8 (by decide) rfl
                        change vs 8 = _ at d8
                        refine ite_yes rfl ?_
                        simp only [Gives]
                        go_simp
                        exact ⟨Below.refl _ _, rfl, fun h => by cases h⟩
                      refine And.intro (fun w hw hd => ?_) ?_
                      · have d8 := hd 8 (by decide) rfl
                        change vs 8 = _ at d8
                        refine ite_yes rfl ?_
                        simp only [Gives]
                        go_simp
                        exact ⟨Below.refl _ _, rfl, fun h => by cases h⟩
                      refine And.intro (fun w hw hd => ?_) ?_
                      · have d9 := hd 9 (by decide) rfl
                        change vs 9 = _ at d9
                        refine ite_yes rfl ?_
                        simp only [Gives]
                        go_simp
                        exact ⟨Below.refl _ _, rfl, fun h => by cases h⟩
                      refine And.intro (fun w hw hd => ?_) ?_
                      · have d10 := hd 10 (by decide) rfl
                        change vs 10 = _ at d10
                        refine ite_yes rfl ?_
                        simp only [Gives]
                        go_simp
                        exact ⟨Below.refl _ _, rfl, fun h => by cases h⟩
                      refine And.intro (fun w hw hd => ?_) ?_
                      · have d11 := hd 11 (by decide) rfl
                        change vs 11 = _ at d11
                        refine ite_yes rfl ?_
                        simp only [Gives]
                        go_simp
                        exact ⟨Below.refl _ _, rfl, fun h => by cases h⟩
                      exact trivial
                    intro vs wt hw hd hne hlo
                    have d0 := hd 0 (by decide)
                    change vs 0 = _ at d0
                    have d1 := hd 1 (by decide)
                    change vs 1 = _ at d1
                    have d2 := hd 2 (by decide)
                    change vs 2 = _ at d2
                    have d3 := hd 3 (by decide)
                    change vs 3 = _ at d3
                    have d4 := hd 4 (by decide)
                    change vs 4 = _ at d4
                    have d5 := hd 5 (by decide)
                    change vs 5 = _ at d5
                    have d6 := hd 6 (by decide)
                    change vs 6 = _ at d6
                    have d7 := hd 7 (by decide)
                    change vs 7 = _ at d7
                    have d8 := hd 8 (by decide)
                    change vs 8 = _ at d8
                    have d9 := hd 9 (by decide)
                    change vs 9 = _ at d9
                    have d10 := hd 10 (by decide)
                    change vs 10 = _ at d10
                    have d11 := hd 11 (by decide)
                    change vs 11 = _ at d11
                    have d12 := hd 12 (by decide)
                    change vs 12 = _ at d12
                    have d13 := hd 13 (by decide)
                    change vs 13 = _ at d13
                    have d14 := hd 14 (by decide)
                    change vs 14 = _ at d14
                    simp only [d0, d1, d2, d3, d4, d5, d6, d8, d9, d10, d11, d12, d13, d14, List.drop_succ_cons, List.drop_nil]
                    clear hd hne hlo d0 d1 d2 d3 d4 d5 d6 d8 d9 d10 d11 d12 d13 d14
                    have HB4 := Lib.hid (b3.kept hw)
                    have hB4 := up_later hB3 hw
                    go_wp2_with fail
                    go_roundw
                    case rel => exact ⟨q + 1, T3, by omega, by go_num, HI3, HN, HB4, hB4⟩
                    case measure => simp [intOf]; omega
                  | some p =>
                    obtain ⟨x, y⟩ := p
                    have HSv := Lib.hid (stepV_some hst)
                    rw [hst] at haft
                    have hin := aftI_in hq6 (by rw [HSl.out]; exact his) (by rw [HRl.out]; exact hkr) haft
                    obtain ⟨t1, ht1⟩ : ∃ t1, endsN S R (i + x, k + y) = t1 := ⟨_, rfl⟩
                    obtain ⟨t0, ht0⟩ : ∃ t0, tabN S R (i, k) q = t0 := ⟨_, rfl⟩
                    obtain ⟨en, hen⟩ : ∃ en, errsN q = en := ⟨_, rfl⟩
                    have HT0 := Lib.hid ht0
                    have hv3 := HV3.out
                    rw [ht0] at hv3
                    have hd1 : T3[(i + x) * 41 + (k + y)]? = some t1 := by rw [← ht1]; exact HI3.out.done _ _ hin.2.1 hin.2.2.2.1 (by omega)
                    have HTab := Lib.hid (show tabN S R (i, k) (q + 1) = min t0 (en + t1) by rw [tab_yes haft, ht0, ht1, hen])
                    have ht1b : t1 ≤ 1000 := by rw [← ht1]; exact ends_le _ _ _
                    have ht0b : t0 ≤ 1000 := by rw [← ht0]; exact tab_le
                    have henb : en ≤ 1 := by rw [← hen]; unfold errsN; split <;> omega
                    have HEn := Lib.hid (show errsN ((q : Int)).toNat = en by rw [Int.toNat_natCast]; exact hen)
                    have hx1 : i + x ≤ s.size := by rw [← HSl.out]; exact hin.2.1
                    have hy1 : k + y ≤ r.size := by rw [← HRl.out]; exact hin.2.2.2.1
                    obtain ⟨A2, hA2⟩ : ∃ A2, A.extract x A.size = A2 := ⟨_, rfl⟩
                    obtain ⟨B2, hB2x⟩ : ∃ B2, B.extract y B.size = B2 := ⟨_, rfl⟩
                    rw [hA2, hB2x] at HSv
                    have hA2s : A2.size = s.size - (i + x) := by rw [← hA2, ← hA]; simp; omega
                    have hB2s : B2.size = r.size - (k + y) := by rw [← hB2x, ← hBB]; simp; omega
                    have HLen := Lib.hid HI3.out.len
                    clear hst haft hAd hBd hA hBB hA2 hB2x ht0 ht1 hen hin HV3
                    go_wp2_with fail
                    apply wp_region_by 15 [(Fact.eq _), (Fact.eq _), (Fact.eq _), (Fact.eq _), (Fact.eq _), (Fact.eq _), (Fact.eq _), (Fact.eq (.tuple #[.string A2, .string B2, .bool true])), (Fact.eq _), (Fact.eq _), (Fact.eq _), (Fact.eq _), (Fact.eq _), (Fact.eq _), (Fact.eq _)]
                    case hm => kernel_rfl
                    case hB => kernel_rfl
                    case hA => (intro vs; simp only [List.take_succ_cons, List.take_zero, putAll, if_true, Act.put, List.setIfInBounds_toArray, List.set_cons_zero, List.set_cons_succ]; exact rfl)
                    case hstep =>
                      intro vs
                      refine And.intro (fun w hw hd => ?_) ?_
                      · refine ite_yes rfl ?_
                        simp only [Gives]
                        go_simp
                        exact ⟨Below.refl _ _, rfl, fun h => by cases h⟩
                      refine And.intro (fun w hw hd => ?_) ?_
                      · refine ite_yes rfl ?_
                        simp only [Gives]
                        go_simp
                        exact ⟨Below.refl _ _, rfl, fun h => by cases h⟩
                      refine And.intro (fun w hw hd => ?_) ?_
                      · refine ite_yes rfl ?_
                        simp only [Gives]
                        go_simp
                        exact ⟨Below.refl _ _, rfl, fun h => by cases h⟩
                      refine And.intro (fun w hw hd => ?_) ?_
                      · have d1 := hd 1 (by decide) rfl
                        change vs 1 = _ at d1
                        have d2 := hd 2 (by decide) rfl
                        change vs 2 = _ at d2
                        refine ite_yes rfl ?_
                        simp only [Gives]
                        go_simp
                        exact ⟨Below.refl _ _, rfl, fun h => by cases h⟩
                      refine And.intro (fun w hw hd => ?_) ?_
                      · refine ite_yes rfl ?_
                        simp only [Gives]
                        go_simp
                        exact ⟨Below.refl _ _, rfl, fun h => by cases h⟩
                      refine And.intro (fun w hw hd => ?_) ?_
                      · refine ite_yes rfl ?_
                        simp only [Gives]
                        go_simp
                        exact ⟨Below.refl _ _, rfl, fun h => by cases h⟩
                      refine And.intro (fun w hw hd => ?_) ?_
                      · have d4 := hd 4 (by decide) rfl
                        change vs 4 = _ at d4
                        have d5 := hd 5 (by decide) rfl
                        change vs 5 = _ at d5
                        refine ite_yes rfl ?_
                        simp only [Gives]
                        go_simp
                        exact ⟨Below.refl _ _, rfl, fun h => by cases h⟩
                      refine And.intro (fun w hw hd => ?_) ?_
                      · have d0 := hd 0 (by decide) rfl
                        change vs 0 = _ at d0
                        have d3 := hd 3 (by decide) rfl
                        change vs 3 = _ at d3
                        have d6 := hd 6 (by decide) rfl
                        change vs 6 = _ at d6
                        refine ite_yes rfl ?_
                        simp only [Gives]
                        go_simp
                        refine (Step_any q A B w).mono ?_
                        rintro e w7 ⟨rfl, hb⟩
                        rw [HSv.out]
                        exact ⟨_, rfl, hb, rfl, fun h => by cases h⟩
                      refine And.intro (fun w hw hd => ?_) ?_
                      · have d7 := hd 7 (by decide) rfl
                        change vs 7 = _ at d7
                        refine ite_yes rfl ?_
                        simp only [Gives]
                        go_simp
                        exact ⟨Below.refl _ _, rfl, fun h => by cases h⟩
                      refine And.intro (fun w hw hd => ?_) ?_
                      · have d8 := hd 8 (by decide) rfl
                        change vs 8 = _ at d8
                        refine ite_yes rfl ?_
                        simp only [Gives]
                        go_simp
                        exact ⟨Below.refl _ _, rfl, fun h => by cases h⟩
                      refine And.intro (fun w hw hd => ?_) ?_
                      · have d8 := hd 8 (by decide) rfl
                        change vs 8 = _ at d8
                        refine ite_yes rfl ?_
                        simp only [Gives]
                        go_simp
                        exact ⟨Below.refl _ _, rfl, fun h => by cases h⟩
                      refine And.intro (fun w hw hd => ?_) ?_
                      · have d8 := hd 8 (by decide) rfl
                        change vs 8 = _ at d8
                        refine ite_yes rfl ?_
                        simp only [Gives]
                        go_simp
                        exact ⟨Below.refl _ _, rfl, fun h => by cases h⟩
                      refine And.intro (fun w hw hd => ?_) ?_
                      · have d9 := hd 9 (by decide) rfl
                        change vs 9 = _ at d9
                        refine ite_yes rfl ?_
                        simp only [Gives]
                        go_simp
                        exact ⟨Below.refl _ _, rfl, fun h => by cases h⟩
                      refine And.intro (fun w hw hd => ?_) ?_
                      · have d10 := hd 10 (by decide) rfl
                        change vs 10 = _ at d10
                        refine ite_yes rfl ?_
                        simp only [Gives]
                        go_simp
                        exact ⟨Below.refl _ _, rfl, fun h => by cases h⟩
                      refine And.intro (fun w hw hd => ?_) ?_
                      · have d11 := hd 11 (by decide) rfl
                        change vs 11 = _ at d11
                        refine ite_yes rfl ?_
                        simp only [Gives]
                        go_simp
                        exact ⟨Below.refl _ _, rfl, fun h => by cases h⟩
                      exact trivial
                    intro vs wt hw hd hne hlo
                    have d0 := hd 0 (by decide)
                    change vs 0 = _ at d0
                    have d1 := hd 1 (by decide)
                    change vs 1 = _ at d1
                    have d2 := hd 2 (by decide)
                    change vs 2 = _ at d2
                    have d3 := hd 3 (by decide)
                    change vs 3 = _ at d3
                    have d4 := hd 4 (by decide)
                    change vs 4 = _ at d4
                    have d5 := hd 5 (by decide)
                    change vs 5 = _ at d5
                    have d6 := hd 6 (by decide)
                    change vs 6 = _ at d6
                    have d7 := hd 7 (by decide)
                    change vs 7 = _ at d7
                    have d8 := hd 8 (by decide)
                    change vs 8 = _ at d8
                    have d9 := hd 9 (by decide)
                    change vs 9 = _ at d9
                    have d10 := hd 10 (by decide)
                    change vs 10 = _ at d10
                    have d11 := hd 11 (by decide)
                    change vs 11 = _ at d11
                    have d12 := hd 12 (by decide)
                    change vs 12 = _ at d12
                    have d13 := hd 13 (by decide)
                    change vs 13 = _ at d13
                    have d14 := hd 14 (by decide)
                    change vs 14 = _ at d14
                    simp only [d0, d1, d2, d3, d4, d5, d6, d8, d9, d10, d11, d12, d13, d14, List.drop_succ_cons, List.drop_nil]
                    clear hd hne hlo d0 d1 d2 d3 d4 d5 d6 d8 d9 d10 d11 d12 d13 d14
                    have b4 := b3.kept hw
                    have hB4 := up_later hB3 hw
                    clear b3 hB3 hw cS cR
                    go_upto_region 16 with fail
                    obtain ⟨a, ha⟩ : ∃ a, i + x = a := ⟨_, rfl⟩
                    obtain ⟨c, hc⟩ : ∃ c, k + y = c := ⟨_, rfl⟩
                    rw [ha] at hd1 hA2s hx1
                    rw [hc] at hd1 hB2s hy1
                    have q0 := box_at b4 hv3
                    have q1 := box_at b4 hd1
                    have f0 := b4.free (i * 41 + k)
                    have hlt := b4.lt
                    have P0 := Lib.hid (show ∀ W', Below wt.heap.size wt W' → W'.cell? ⟨w.heap.size, i * 41 + k, none⟩ = some (iv t0) from fun W' h => (h.cell (p := ⟨w.heap.size, i * 41 + k, none⟩) hlt).trans q0)
                    have P1 := Lib.hid (show ∀ W', Below wt.heap.size wt W' → W'.cell? ⟨w.heap.size, a * 41 + c, none⟩ = some (iv t1) from fun W' h => (h.cell (p := ⟨w.heap.size, a * 41 + c, none⟩) hlt).trans q1)
                    have hW1 : IntKind.i64.wrap ((s.size : Int) - (A2.size : Int)) = (a : Int) := by rw [wrapK_in _ 3000 (by omega) (by omega)]; omega
                    have hW2 : IntKind.i64.wrap ((r.size : Int) - (B2.size : Int)) = (c : Int) := by rw [wrapK_in _ 3000 (by omega) (by omega)]; omega
                    have hW3 : IntKind.i64.wrap ((en : Int) + (t1 : Int)) = (en : Int) + (t1 : Int) := wrapK_in _ 3000 (by omega) (by omega)
                    have i0x : (0 : Int) ≤ (a : Int) := by omega
                    have i1x : (a : Int) < 41 := by omega
                    have k0y : (0 : Int) ≤ (c : Int) := by omega
                    have k1y : (c : Int) < 41 := by omega
                    have hQ0 : (0 : Int) ≤ (q : Int) := by omega
                    have HMin := Lib.hid (show min (t0 : Int) ((en : Int) + (t1 : Int)) = ((min t0 (en + t1) : Nat) : Int) by omega)
                    clear hv3 hd1 hA2s hB2s hx1 hy1 ht1b ht0b henb q0 q1 ha hc
                    apply wp_region_by 32 [(Fact.eq _), (Fact.eq _), (Fact.eq _), (Fact.eq _), (Fact.eq _), (Fact.eq _), (Fact.eq _), (Fact.eq _), (Fact.eq _), (Fact.eq _), (Fact.eq _), (Fact.eq (iv en)), (Fact.eq _), (Fact.eq _), (Fact.eq _), (Fact.eq _), (Fact.eq _), (Fact.eq (.int .i64 (a : Int))), (Fact.eq _), (Fact.eq _), (Fact.eq _), (Fact.eq _), (Fact.eq (.int .i64 (c : Int))), (Fact.eq _), (Fact.eq _), (Fact.eq _), (Fact.eq _), (Fact.eq (.int .i64 ((en : Int) + (t1 : Int)))), (Fact.eq (iv (min t0 (en + t1) : Nat))), (Fact.eq _), (Fact.eq _), (Fact.eq _)]
                    case hm => kernel_rfl
                    case hB => kernel_rfl
                    case hA => (intro vs; simp only [List.take_succ_cons, List.take_zero, putAll, if_true, Act.put, List.setIfInBounds_toArray, List.set_cons_zero, List.set_cons_succ]; exact rfl)
                    case hstep =>
                      intro vs
                      refine And.intro (fun w hw hd => ?_) ?_
                      · refine ite_yes rfl ?_
                        simp only [Gives]
                        go_simp
                        exact ⟨Below.refl _ _, rfl, fun h => by cases h⟩
                      refine And.intro (fun w hw hd => ?_) ?_
                      · refine ite_yes rfl ?_
                        simp only [Gives]
                        go_simp
                        exact ⟨Below.refl _ _, rfl, fun h => by cases h⟩
                      refine And.intro (fun w hw hd => ?_) ?_
                      · refine ite_yes rfl ?_
                        simp only [Gives]
                        go_simp
                        exact ⟨Below.refl _ _, rfl, fun h => by cases h⟩
                      refine And.intro (fun w hw hd => ?_) ?_
                      · refine ite_yes rfl ?_
                        simp only [Gives]
                        go_simp
                        exact ⟨Below.refl _ _, rfl, fun h => by cases h⟩
                      refine And.intro (fun w hw hd => ?_) ?_
                      · refine ite_yes rfl ?_
                        simp only [Gives]
                        go_simp
                        exact ⟨Below.refl _ _, rfl, fun h => by cases h⟩
                      refine And.intro (fun w hw hd => ?_) ?_
                      · refine ite_yes rfl ?_
                        simp only [Gives]
                        go_simp
                        exact ⟨Below.refl _ _, rfl, fun h => by cases h⟩
                      refine And.intro (fun w hw hd => ?_) ?_
                      · have d3 := hd 3 (by decide) rfl
                        change vs 3 = _ at d3
                        refine ite_yes rfl ?_
                        simp only [Gives]
                        go_simp
                        exact ⟨Below.refl _ _, rfl, fun h => by cases h⟩
                      refine And.intro (fun w hw hd => ?_) ?_
                      · have d6 := hd 6 (by decide) rfl
                        change vs 6 = _ at d6
                        have d4 := hd 4 (by decide) rfl
                        change vs 4 = _ at d4
                        refine ite_yes rfl ?_
                        simp only [Gives]
                        go_simp
                        exact ⟨Below.refl _ _, rfl, fun h => by cases h⟩
                      refine And.intro (fun w hw hd => ?_) ?_
                      · have d7 := hd 7 (by decide) rfl
                        change vs 7 = _ at d7
                        have d5 := hd 5 (by decide) rfl
                        change vs 5 = _ at d5
                        refine ite_yes rfl ?_
                        simp only [Gives]
                        go_simp
                        exact ⟨Below.refl _ _, rfl, fun h => by cases h⟩
                      refine And.intro (fun w hw hd => ?_) ?_
                      · have d8 := hd 8 (by decide) rfl
                        change vs 8 = _ at d8
                        refine ite_yes rfl ?_
                        have p0 := P0.out w hw
                        have p1 := P1.out w hw
                        simp only [Gives]
                        go_simp
                        exact ⟨Below.refl _ _, rfl, fun h => by cases h⟩
                      refine And.intro (fun w hw hd => ?_) ?_
                      · refine ite_yes rfl ?_
                        simp only [Gives]
                        go_simp
                        exact ⟨Below.refl _ _, rfl, fun h => by cases h⟩
                      refine And.intro (fun w hw hd => ?_) ?_
                      · have d10 := hd 10 (by decide) rfl
                        change vs 10 = _ at d10
                        refine ite_yes rfl ?_
                        simp only [Gives]
                        go_simp
                        refine (Cost_any q w hQ0).mono ?_
                        rintro e w7 ⟨rfl, hb⟩
                        rw [HEn.out]
                        exact ⟨_, rfl, hb, rfl, fun h => by cases h⟩
                      refine And.intro (fun w hw hd => ?_) ?_
                      · refine ite_yes rfl ?_
                        simp only [Gives]
                        go_simp
                        exact ⟨Below.refl _ _, rfl, fun h => by cases h⟩
                      refine And.intro (fun w hw hd => ?_) ?_
                      · refine ite_yes rfl ?_
                        simp only [Gives]
                        go_simp
                        exact ⟨Below.refl _ _, rfl, fun h => by cases h⟩
                      refine And.intro (fun w hw hd => ?_) ?_
                      · have d13 := hd 13 (by decide) rfl
                        change vs 13 = _ at d13
                        refine ite_yes rfl ?_
                        simp only [Gives]
                        go_simp
                        exact ⟨Below.refl _ _, rfl, fun h => by cases h⟩
                      refine And.intro (fun w hw hd => ?_) ?_
                      · refine ite_yes rfl ?_
                        simp only [Gives]
                        go_simp
                        exact ⟨Below.refl _ _, rfl, fun h => by cases h⟩
                      refine And.intro (fun w hw hd => ?_) ?_
                      · have d15 := hd 15 (by decide) rfl
                        change vs 15 = _ at d15
                        refine ite_yes rfl ?_
                        simp only [Gives]
                        go_simp
                        exact ⟨Below.refl _ _, rfl, fun h => by cases h⟩
                      refine And.intro (fun w hw hd => ?_) ?_
                      · have d14 := hd 14 (by decide) rfl
                        change vs 14 = _ at d14
                        have d16 := hd 16 (by decide) rfl
                        change vs 16 = _ at d16
                        refine ite_yes rfl ?_
                        simp only [Gives]
                        go_simp
                        (try rw [hW1])
                        exact ⟨Below.refl _ _, rfl, fun h => by cases h⟩
                      refine And.intro (fun w hw hd => ?_) ?_
                      · refine ite_yes rfl ?_
                        simp only [Gives]
                        go_simp
                        exact ⟨Below.refl _ _, rfl, fun h => by cases h⟩
                      refine And.intro (fun w hw hd => ?_) ?_
                      · have d18 := hd 18 (by decide) rfl
                        change vs 18 = _ at d18
                        refine ite_yes rfl ?_
                        simp only [Gives]
                        go_simp
                        exact ⟨Below.refl _ _, rfl, fun h => by cases h⟩
                      refine And.intro (fun w hw hd => ?_) ?_
                      · refine ite_yes rfl ?_
                        simp only [Gives]
                        go_simp
                        exact ⟨Below.refl _ _, rfl, fun h => by cases h⟩
                      refine And.intro (fun w hw hd => ?_) ?_
                      · have d20 := hd 20 (by decide) rfl
                        change vs 20 = _ at d20
                        refine ite_yes rfl ?_
                        simp only [Gives]
                        go_simp
                        exact ⟨Below.refl _ _, rfl, fun h => by cases h⟩
                      refine And.intro (fun w hw hd => ?_) ?_
                      · have d19 := hd 19 (by decide) rfl
                        change vs 19 = _ at d19
                        have d21 := hd 21 (by decide) rfl
                        change vs 21 = _ at d21
                        refine ite_yes rfl ?_
                        simp only [Gives]
                        go_simp
                        (try rw [hW2])
                        exact ⟨Below.refl _ _, rfl, fun h => by cases h⟩
                      refine And.intro (fun w hw hd => ?_) ?_
                      · have d12 := hd 12 (by decide) rfl
                        change vs 12 = _ at d12
                        refine ite_yes rfl ?_
                        simp only [Gives]
                        go_simp
                        exact ⟨Below.refl _ _, rfl, fun h => by cases h⟩
                      refine And.intro (fun w hw hd => ?_) ?_
                      · have d23 := hd 23 (by decide) rfl
                        change vs 23 = _ at d23
                        have d17 := hd 17 (by decide) rfl
                        change vs 17 = _ at d17
                        refine ite_yes rfl ?_
                        simp only [Gives]
                        go_simp
                        exact ⟨Below.refl _ _, rfl, fun h => by cases h⟩
                      refine And.intro (fun w hw hd => ?_) ?_
                      · have d24 := hd 24 (by decide) rfl
                        change vs 24 = _ at d24
                        have d22 := hd 22 (by decide) rfl
                        change vs 22 = _ at d22
                        refine ite_yes rfl ?_
                        simp only [Gives]
                        go_simp
                        exact ⟨Below.refl _ _, rfl, fun h => by cases h⟩
                      refine And.intro (fun w hw hd => ?_) ?_
                      · have d25 := hd 25 (by decide) rfl
                        change vs 25 = _ at d25
                        refine ite_yes rfl ?_
                        have p0 := P0.out w hw
                        have p1 := P1.out w hw
                        simp only [Gives]
                        go_simp
                        exact ⟨Below.refl _ _, rfl, fun h => by cases h⟩
                      refine And.intro (fun w hw hd => ?_) ?_
                      · have d11 := hd 11 (by decide) rfl
                        change vs 11 = _ at d11
                        have d26 := hd 26 (by decide) rfl
                        change vs 26 = _ at d26
                        refine ite_yes rfl ?_
                        simp only [Gives]
                        go_simp
                        (try rw [hW3])
                        exact ⟨Below.refl _ _, rfl, fun h => by cases h⟩
                      refine And.intro (fun w hw hd => ?_) ?_
                      · have d9 := hd 9 (by decide) rfl
                        change vs 9 = _ at d9
                        have d27 := hd 27 (by decide) rfl
                        change vs 27 = _ at d27
                        refine ite_yes rfl ?_
                        simp only [Gives]
                        go_simp
                        exact ⟨Below.refl _ _, congrArg (Value.int .i64) HMin.out, fun h => by cases h⟩
                      refine And.intro (fun w hw hd => ?_) ?_
                      · have d0 := hd 0 (by decide) rfl
                        change vs 0 = _ at d0
                        refine ite_yes rfl ?_
                        simp only [Gives]
                        go_simp
                        exact ⟨Below.refl _ _, rfl, fun h => by cases h⟩
                      refine And.intro (fun w hw hd => ?_) ?_
                      · have d29 := hd 29 (by decide) rfl
                        change vs 29 = _ at d29
                        have d1 := hd 1 (by decide) rfl
                        change vs 1 = _ at d1
                        refine ite_yes rfl ?_
                        simp only [Gives]
                        go_simp
                        exact ⟨Below.refl _ _, rfl, fun h => by cases h⟩
                      refine And.intro (fun w hw hd => ?_) ?_
                      · have d30 := hd 30 (by decide) rfl
                        change vs 30 = _ at d30
                        have d2 := hd 2 (by decide) rfl
                        change vs 2 = _ at d2
                        refine ite_yes rfl ?_
                        simp only [Gives]
                        go_simp
                        exact ⟨Below.refl _ _, rfl, fun h => by cases h⟩
                      exact trivial
                    intro vs wt hw hd hne hlo
                    have d0 := hd 0 (by decide)
                    change vs 0 = _ at d0
                    have d1 := hd 1 (by decide)
                    change vs 1 = _ at d1
                    have d2 := hd 2 (by decide)
                    change vs 2 = _ at d2
                    have d3 := hd 3 (by decide)
                    change vs 3 = _ at d3
                    have d4 := hd 4 (by decide)
                    change vs 4 = _ at d4
                    have d5 := hd 5 (by decide)
                    change vs 5 = _ at d5
                    have d6 := hd 6 (by decide)
                    change vs 6 = _ at d6
                    have d7 := hd 7 (by decide)
                    change vs 7 = _ at d7
                    have d8 := hd 8 (by decide)
                    change vs 8 = _ at d8
                    have d9 := hd 9 (by decide)
                    change vs 9 = _ at d9
                    have d10 := hd 10 (by decide)
                    change vs 10 = _ at d10
                    have d11 := hd 11 (by decide)
                    change vs 11 = _ at d11
                    have d12 := hd 12 (by decide)
                    change vs 12 = _ at d12
                    have d13 := hd 13 (by decide)
                    change vs 13 = _ at d13
                    have d14 := hd 14 (by decide)
                    change vs 14 = _ at d14
                    have d15 := hd 15 (by decide)
                    change vs 15 = _ at d15
                    have d16 := hd 16 (by decide)
                    change vs 16 = _ at d16
                    have d17 := hd 17 (by decide)
                    change vs 17 = _ at d17
                    have d18 := hd 18 (by decide)
                    change vs 18 = _ at d18
                    have d19 := hd 19 (by decide)
                    change vs 19 = _ at d19
                    have d20 := hd 20 (by decide)
                    change vs 20 = _ at d20
                    have d21 := hd 21 (by decide)
                    change vs 21 = _ at d21
                    have d22 := hd 22 (by decide)
                    change vs 22 = _ at d22
                    have d23 := hd 23 (by decide)
                    change vs 23 = _ at d23
                    have d24 := hd 24 (by decide)
                    change vs 24 = _ at d24
                    have d25 := hd 25 (by decide)
                    change vs 25 = _ at d25
                    have d26 := hd 26 (by decide)
                    change vs 26 = _ at d26
                    have d27 := hd 27 (by decide)
                    change vs 27 = _ at d27
                    have d28 := hd 28 (by decide)
                    change vs 28 = _ at d28
                    have d29 := hd 29 (by decide)
                    change vs 29 = _ at d29
                    have d30 := hd 30 (by decide)
                    change vs 30 = _ at d30
                    have d31 := hd 31 (by decide)
                    change vs 31 = _ at d31
                    simp only [d0, d1, d2, d3, d4, d5, d6, d7, d8, d9, d10, d12, d13, d14, d15, d16, d18, d19, d20, d21, d23, d24, d25, d26, d29, d30, d31, List.drop_succ_cons, List.drop_zero]
                    clear hd hne hlo d0 d1 d2 d3 d4 d5 d6 d7 d8 d9 d10 d12 d13 d14 d15 d16 d18 d19 d20 d21 d23 d24 d25 d26 d29 d30 d31
                    have b5 := b4.kept hw
                    have p0 := P0.out _ hw
                    have f0 := b5.free (i * 41 + k)
                    have hB5 := up_later hB4 hw
                    have HB6 := Lib.hid (box_set (x := min t0 (en + t1)) (n := i * 41 + k) b5)
                    have hB6 := up_put hB5 (p := ⟨w.heap.size, i * 41 + k, none⟩) (Nat.le_refl _) (iv (min t0 (en + t1) : Nat))
                    have HI6 := Lib.hid (HI3.out.set (by rw [HRl.out]; exact hr) hk40 (min t0 (en + t1)))
                    have HV6 : Hid ((T3.set (i * 41 + k) (min t0 (en + t1)))[i * 41 + k]? = some (tabN S R (i, k) (q + 1))) := Lib.hid (by
                      rw [List.getElem?_set_self (by rw [HLen.out]; omega), HTab.out])
                    clear hw b5 b4 hB5 hB4
                    go_wp2_with fail
                    go_roundw
                    case rel => exact ⟨q + 1, _, by omega, by go_num, HI6, HV6, HB6, hB6⟩
                    case measure => simp [intOf]; omega
                · have hq5 : ¬ (q : Int) ≤ 5 := by omega
                  obtain rfl : q = 6 := by omega
                  have HD := Lib.hid (show T3.length = 1681 ∧ ∀ a c, a ≤ S.length → c ≤ R.length → (i < a ∨ i = a ∧ k ≤ c) → T3[a * 41 + c]? = some (endsN S R (a, c)) from ⟨HI3.out.len, fun a c ha hc h => by
                    by_cases he : i = a ∧ k = c
                    · obtain ⟨rfl, rfl⟩ := he
                      rw [← tab_six (by rw [HSl.out]; exact hs) (by rw [HRl.out]; exact hr) (p := (i, k)) ha hc]
                      exact HV3.out
                    · exact HI3.out.done a c ha hc (by omega)⟩)
                  go_wp2_with fail
                  go_roundw
                  case rel => exact ⟨k, T3, by omega, by go_num, HD, HB3, hB3⟩
                  case measure => simp [intOf] <;> omega
            · have h1 : ((i : Int) == (s.size : Int)) = false := by rw [beq_eq_false_iff_ne]; omega
              clear hend b2
              go_wp2_with fail
              go_loopw [8] (fun v wr => ∃ q : Nat, ∃ T : List Nat, q ≤ 6 ∧ v = iv q ∧ Hid (TabI S R i k T) ∧ Hid (T[i * 41 + k]? = some (tabN S R (i, k) q)) ∧ Hid (Box wr w.heap.size 139 (rowC T)) ∧ Below w.heap.size w wr) (fun v _ => 6 - (intOf v).toNat)
              case atStart => exact ⟨0, T2.set (i * 41 + k) 1000, by omega, rfl, HI2, HV2, bS, hB3⟩
              case round =>
                obtain ⟨q, T3, hq, rfl, HI3, HV3, HB3, hB3⟩ := hrel
                have b3 := HB3.out
                by_cases hq6 : q < 6
                · have hq5 : (q : Int) ≤ 5 := by omega
                  have his : i ≤ s.size := by omega
                  have hkr : k ≤ r.size := by omega
                  have cS := cut_from (A := s) i his
                  have cR := cut_from (A := r) k hkr
                  obtain ⟨A, hA⟩ : ∃ A, s.extract i s.size = A := ⟨_, rfl⟩
                  obtain ⟨B, hBB⟩ : ∃ B, r.extract k r.size = B := ⟨_, rfl⟩
                  have hAd : A.data.toList = S.drop i := by
                    rw [← hA]
                    have h := drop_cut (A := s) (S := S) (a := 0) (i := i) HS.out
                    rwa [Nat.zero_add] at h
                  have hBd : B.data.toList = R.drop k := by
                    rw [← hBB]
                    have h := drop_cut (A := r) (S := R) (a := 0) (i := k) HR.out
                    rwa [Nat.zero_add] at h
                  rw [hA] at cS
                  rw [hBB] at cR
                  have haft := step_aft (S := S) (R := R) HSig.out (i := i) (k := k) hq6
                  rw [← hAd, ← hBd] at haft
                  cases hst : stepR q A.data.toList B.data.toList with
                  | none =>
                    have HSv := Lib.hid (stepV_none hst)
                    rw [hst] at haft
                    have HN := Lib.hid (show T3[i * 41 + k]? = some (tabN S R (i, k) (q + 1)) by rw [tab_no haft]; exact HV3.out)
                    clear hst haft hAd hBd hA hBB
                    go_wp2_with fail
                    apply wp_region_by 15 [(Fact.eq _), (Fact.eq _), (Fact.eq _), (Fact.eq _), (Fact.eq _), (Fact.eq _), (Fact.eq _), (Fact.eq (.tuple #[.string ⟨#[]⟩, .string ⟨#[]⟩, .bool false])), (Fact.eq _), (Fact.eq _), (Fact.eq _), (Fact.eq _), (Fact.eq _), (Fact.eq _), (Fact.eq _)]
                    case hm => kernel_rfl
                    case hB => kernel_rfl
                    case hA => (intro vs; simp only [List.take_succ_cons, List.take_zero, putAll, if_true, Act.put, List.setIfInBounds_toArray, List.set_cons_zero, List.set_cons_succ]; exact rfl)
                    case hstep =>
                      intro vs
                      refine And.intro (fun w hw hd => ?_) ?_
                      · refine ite_yes rfl ?_
                        simp only [Gives]
                        go_simp
                        exact ⟨Below.refl _ _, rfl, fun h => by cases h⟩
                      refine And.intro (fun w hw hd => ?_) ?_
                      · refine ite_yes rfl ?_
                        simp only [Gives]
                        go_simp
                        exact ⟨Below.refl _ _, rfl, fun h => by cases h⟩
                      refine And.intro (fun w hw hd => ?_) ?_
                      · refine ite_yes rfl ?_
                        simp only [Gives]
                        go_simp
                        exact ⟨Below.refl _ _, rfl, fun h => by cases h⟩
                      refine And.intro (fun w hw hd => ?_) ?_
                      · have d1 := hd 1 (by decide) rfl
                        change vs 1 = _ at d1
                        have d2 := hd 2 (by decide) rfl
                        change vs 2 = _ at d2
                        refine ite_yes rfl ?_
                        simp only [Gives]
                        go_simp
                        exact ⟨Below.refl _ _, rfl, fun h => by cases h⟩
                      refine And.intro (fun w hw hd => ?_) ?_
                      · refine ite_yes rfl ?_
                        simp only [Gives]
                        go_simp
                        exact ⟨Below.refl _ _, rfl, fun h => by cases h⟩
                      refine And.intro (fun w hw hd => ?_) ?_
                      · refine ite_yes rfl ?_
                        simp only [Gives]
                        go_simp
                        exact ⟨Below.refl _ _, rfl, fun h => by cases h⟩
                      refine And.intro (fun w hw hd => ?_) ?_
                      · have d4 := hd 4 (by decide) rfl
                        change vs 4 = _ at d4
                        have d5 := hd 5 (by decide) rfl
                        change vs 5 = _ at d5
                        refine ite_yes rfl ?_
                        simp only [Gives]
                        go_simp
                        exact ⟨Below.refl _ _, rfl, fun h => by cases h⟩
                      refine And.intro (fun w hw hd => ?_) ?_
                      · have d0 := hd 0 (by decide) rfl
                        change vs 0 = _ at d0
                        have d3 := hd 3 (by decide) rfl
                        change vs 3 = _ at d3
                        have d6 := hd 6 (by decide) rfl
                        change vs 6 = _ at d6
                        refine ite_yes rfl ?_
                        simp only [Gives]
                        go_simp
                        refine (Step_any q A B w).mono ?_
                        rintro e w7 ⟨rfl, hb⟩
                        rw [HSv.out]
                        exact ⟨_, rfl, hb, rfl, fun h => by cases h⟩
                      refine And.intro (fun w hw hd => ?_) ?_
                      · have d7 := hd 7 (by decide) rfl
                        change vs 7 = _ at d7
                        refine ite_yes rfl ?_
                        simp only [Gives]
                        go_simp
                        exact ⟨Below.refl _ _, rfl, fun h => by cases h⟩
                      refine And.intro (fun w hw hd => ?_) ?_
                      · have d8 := hd 8 (by decide) rfl
                        change vs 8 = _ at d8
                        refine ite_yes rfl ?_
                        simp only [Gives]
                        go_simp
                        exact ⟨Below.refl _ _, rfl, fun h => by cases h⟩
                      refine And.intro (fun w hw hd => ?_) ?_
                      · have d8 := hd 8 (by decide) rfl
                        change vs 8 = _ at d8
                        refine ite_yes rfl ?_
                        simp only [Gives]
                        go_simp
                        exact ⟨Below.refl _ _, rfl, fun h => by cases h⟩
                      refine And.intro (fun w hw hd => ?_) ?_
                      · have d8 := hd 8 (by decide) rfl
                        change vs 8 = _ at d8
                        refine ite_yes rfl ?_
                        simp only [Gives]
                        go_simp
                        exact ⟨Below.refl _ _, rfl, fun h => by cases h⟩
                      refine And.intro (fun w hw hd => ?_) ?_
                      · have d9 := hd 9 (by decide) rfl
                        change vs 9 = _ at d9
                        refine ite_yes rfl ?_
                        simp only [Gives]
                        go_simp
                        exact ⟨Below.refl _ _, rfl, fun h => by cases h⟩
                      refine And.intro (fun w hw hd => ?_) ?_
                      · have d10 := hd 10 (by decide) rfl
                        change vs 10 = _ at d10
                        refine ite_yes rfl ?_
                        simp only [Gives]
                        go_simp
                        exact ⟨Below.refl _ _, rfl, fun h => by cases h⟩
                      refine And.intro (fun w hw hd => ?_) ?_
                      · have d11 := hd 11 (by decide) rfl
                        change vs 11 = _ at d11
                        refine ite_yes rfl ?_
                        simp only [Gives]
                        go_simp
                        exact ⟨Below.refl _ _, rfl, fun h => by cases h⟩
                      exact trivial
                    intro vs wt hw hd hne hlo
                    have d0 := hd 0 (by decide)
                    change vs 0 = _ at d0
                    have d1 := hd 1 (by decide)
                    change vs 1 = _ at d1
                    have d2 := hd 2 (by decide)
                    change vs 2 = _ at d2
                    have d3 := hd 3 (by decide)
                    change vs 3 = _ at d3
                    have d4 := hd 4 (by decide)
                    change vs 4 = _ at d4
                    have d5 := hd 5 (by decide)
                    change vs 5 = _ at d5
                    have d6 := hd 6 (by decide)
                    change vs 6 = _ at d6
                    have d7 := hd 7 (by decide)
                    change vs 7 = _ at d7
                    have d8 := hd 8 (by decide)
                    change vs 8 = _ at d8
                    have d9 := hd 9 (by decide)
                    change vs 9 = _ at d9
                    have d10 := hd 10 (by decide)
                    change vs 10 = _ at d10
                    have d11 := hd 11 (by decide)
                    change vs 11 = _ at d11
                    have d12 := hd 12 (by decide)
                    change vs 12 = _ at d12
                    have d13 := hd 13 (by decide)
                    change vs 13 = _ at d13
                    have d14 := hd 14 (by decide)
                    change vs 14 = _ at d14
                    simp only [d0, d1, d2, d3, d4, d5, d6, d8, d9, d10, d11, d12, d13, d14, List.drop_succ_cons, List.drop_nil]
                    clear hd hne hlo d0 d1 d2 d3 d4 d5 d6 d8 d9 d10 d11 d12 d13 d14
                    have HB4 := Lib.hid (b3.kept hw)
                    have hB4 := up_later hB3 hw
                    go_wp2_with fail
                    go_roundw
                    case rel => exact ⟨q + 1, T3, by omega, by go_num, HI3, HN, HB4, hB4⟩
                    case measure => simp [intOf]; omega
                  | some p =>
                    obtain ⟨x, y⟩ := p
                    have HSv := Lib.hid (stepV_some hst)
                    rw [hst] at haft
                    have hin := aftI_in hq6 (by rw [HSl.out]; exact his) (by rw [HRl.out]; exact hkr) haft
                    obtain ⟨t1, ht1⟩ : ∃ t1, endsN S R (i + x, k + y) = t1 := ⟨_, rfl⟩
                    obtain ⟨t0, ht0⟩ : ∃ t0, tabN S R (i, k) q = t0 := ⟨_, rfl⟩
                    obtain ⟨en, hen⟩ : ∃ en, errsN q = en := ⟨_, rfl⟩
                    have HT0 := Lib.hid ht0
                    have hv3 := HV3.out
                    rw [ht0] at hv3
                    have hd1 : T3[(i + x) * 41 + (k + y)]? = some t1 := by rw [← ht1]; exact HI3.out.done _ _ hin.2.1 hin.2.2.2.1 (by omega)
                    have HTab := Lib.hid (show tabN S R (i, k) (q + 1) = min t0 (en + t1) by rw [tab_yes haft, ht0, ht1, hen])
                    have ht1b : t1 ≤ 1000 := by rw [← ht1]; exact ends_le _ _ _
                    have ht0b : t0 ≤ 1000 := by rw [← ht0]; exact tab_le
                    have henb : en ≤ 1 := by rw [← hen]; unfold errsN; split <;> omega
                    have HEn := Lib.hid (show errsN ((q : Int)).toNat = en by rw [Int.toNat_natCast]; exact hen)
                    have hx1 : i + x ≤ s.size := by rw [← HSl.out]; exact hin.2.1
                    have hy1 : k + y ≤ r.size := by rw [← HRl.out]; exact hin.2.2.2.1
                    obtain ⟨A2, hA2⟩ : ∃ A2, A.extract x A.size = A2 := ⟨_, rfl⟩
                    obtain ⟨B2, hB2x⟩ : ∃ B2, B.extract y B.size = B2 := ⟨_, rfl⟩
                    rw [hA2, hB2x] at HSv
                    have hA2s : A2.size = s.size - (i + x) := by rw [← hA2, ← hA]; simp; omega
                    have hB2s : B2.size = r.size - (k + y) := by rw [← hB2x, ← hBB]; simp; omega
                    have HLen := Lib.hid HI3.out.len
                    clear hst haft hAd hBd hA hBB hA2 hB2x ht0 ht1 hen hin HV3
                    go_wp2_with fail
                    apply wp_region_by 15 [(Fact.eq _), (Fact.eq _), (Fact.eq _), (Fact.eq _), (Fact.eq _), (Fact.eq _), (Fact.eq _), (Fact.eq (.tuple #[.string A2, .string B2, .bool true])), (Fact.eq _), (Fact.eq _), (Fact.eq _), (Fact.eq _), (Fact.eq _), (Fact.eq _), (Fact.eq _)]
                    case hm => kernel_rfl
                    case hB => kernel_rfl
                    case hA => (intro vs; simp only [List.take_succ_cons, List.take_zero, putAll, if_true, Act.put, List.setIfInBounds_toArray, List.set_cons_zero, List.set_cons_succ]; exact rfl)
                    case hstep =>
                      intro vs
                      refine And.intro (fun w hw hd => ?_) ?_
                      · refine ite_yes rfl ?_
                        simp only [Gives]
                        go_simp
                        exact ⟨Below.refl _ _, rfl, fun h => by cases h⟩
                      refine And.intro (fun w hw hd => ?_) ?_
                      · refine ite_yes rfl ?_
                        simp only [Gives]
                        go_simp
                        exact ⟨Below.refl _ _, rfl, fun h => by cases h⟩
                      refine And.intro (fun w hw hd => ?_) ?_
                      · refine ite_yes rfl ?_
                        simp only [Gives]
                        go_simp
                        exact ⟨Below.refl _ _, rfl, fun h => by cases h⟩
                      refine And.intro (fun w hw hd => ?_) ?_
                      · have d1 := hd 1 (by decide) rfl
                        change vs 1 = _ at d1
                        have d2 := hd 2 (by decide) rfl
                        change vs 2 = _ at d2
                        refine ite_yes rfl ?_
                        simp only [Gives]
                        go_simp
                        exact ⟨Below.refl _ _, rfl, fun h => by cases h⟩
                      refine And.intro (fun w hw hd => ?_) ?_
                      · refine ite_yes rfl ?_
                        simp only [Gives]
                        go_simp
                        exact ⟨Below.refl _ _, rfl, fun h => by cases h⟩
                      refine And.intro (fun w hw hd => ?_) ?_
                      · refine ite_yes rfl ?_
                        simp only [Gives]
                        go_simp
                        exact ⟨Below.refl _ _, rfl, fun h => by cases h⟩
                      refine And.intro (fun w hw hd => ?_) ?_
                      · have d4 := hd 4 (by decide) rfl
                        change vs 4 = _ at d4
                        have d5 := hd 5 (by decide) rfl
                        change vs 5 = _ at d5
                        refine ite_yes rfl ?_
                        simp only [Gives]
                        go_simp
                        exact ⟨Below.refl _ _, rfl, fun h => by cases h⟩
                      refine And.intro (fun w hw hd => ?_) ?_
                      · have d0 := hd 0 (by decide) rfl
                        change vs 0 = _ at d0
                        have d3 := hd 3 (by decide) rfl
                        change vs 3 = _ at d3
                        have d6 := hd 6 (by decide) rfl
                        change vs 6 = _ at d6
                        refine ite_yes rfl ?_
                        simp only [Gives]
                        go_simp
                        refine (Step_any q A B w).mono ?_
                        rintro e w7 ⟨rfl, hb⟩
                        rw [HSv.out]
                        exact ⟨_, rfl, hb, rfl, fun h => by cases h⟩
                      refine And.intro (fun w hw hd => ?_) ?_
                      · have d7 := hd 7 (by decide) rfl
                        change vs 7 = _ at d7
                        refine ite_yes rfl ?_
                        simp only [Gives]
                        go_simp
                        exact ⟨Below.refl _ _, rfl, fun h => by cases h⟩
                      refine And.intro (fun w hw hd => ?_) ?_
                      · have d8 := hd 8 (by decide) rfl
                        change vs 8 = _ at d8
                        refine ite_yes rfl ?_
                        simp only [Gives]
                        go_simp
                        exact ⟨Below.refl _ _, rfl, fun h => by cases h⟩
                      refine And.intro (fun w hw hd => ?_) ?_
                      · have d8 := hd 8 (by decide) rfl
                        change vs 8 = _ at d8
                        refine ite_yes rfl ?_
                        simp only [Gives]
                        go_simp
                        exact ⟨Below.refl _ _, rfl, fun h => by cases h⟩
                      refine And.intro (fun w hw hd => ?_) ?_
                      · have d8 := hd 8 (by decide) rfl
                        change vs 8 = _ at d8
                        refine ite_yes rfl ?_
                        simp only [Gives]
                        go_simp
                        exact ⟨Below.refl _ _, rfl, fun h => by cases h⟩
                      refine And.intro (fun w hw hd => ?_) ?_
                      · have d9 := hd 9 (by decide) rfl
                        change vs 9 = _ at d9
                        refine ite_yes rfl ?_
                        simp only [Gives]
                        go_simp
                        exact ⟨Below.refl _ _, rfl, fun h => by cases h⟩
                      refine And.intro (fun w hw hd => ?_) ?_
                      · have d10 := hd 10 (by decide) rfl
                        change vs 10 = _ at d10
                        refine ite_yes rfl ?_
                        simp only [Gives]
                        go_simp
                        exact ⟨Below.refl _ _, rfl, fun h => by cases h⟩
                      refine And.intro (fun w hw hd => ?_) ?_
                      · have d11 := hd 11 (by decide) rfl
                        change vs 11 = _ at d11
                        refine ite_yes rfl ?_
                        simp only [Gives]
                        go_simp
                        exact ⟨Below.refl _ _, rfl, fun h => by cases h⟩
                      exact trivial
                    intro vs wt hw hd hne hlo
                    have d0 := hd 0 (by decide)
                    change vs 0 = _ at d0
                    have d1 := hd 1 (by decide)
                    change vs 1 = _ at d1
                    have d2 := hd 2 (by decide)
                    change vs 2 = _ at d2
                    have d3 := hd 3 (by decide)
                    change vs 3 = _ at d3
                    have d4 := hd 4 (by decide)
                    change vs 4 = _ at d4
                    have d5 := hd 5 (by decide)
                    change vs 5 = _ at d5
                    have d6 := hd 6 (by decide)
                    change vs 6 = _ at d6
                    have d7 := hd 7 (by decide)
                    change vs 7 = _ at d7
                    have d8 := hd 8 (by decide)
                    change vs 8 = _ at d8
                    have d9 := hd 9 (by decide)
                    change vs 9 = _ at d9
                    have d10 := hd 10 (by decide)
                    change vs 10 = _ at d10
                    have d11 := hd 11 (by decide)
                    change vs 11 = _ at d11
                    have d12 := hd 12 (by decide)
                    change vs 12 = _ at d12
                    have d13 := hd 13 (by decide)
                    change vs 13 = _ at d13
                    have d14 := hd 14 (by decide)
                    change vs 14 = _ at d14
                    simp only [d0, d1, d2, d3, d4, d5, d6, d8, d9, d10, d11, d12, d13, d14, List.drop_succ_cons, List.drop_nil]
                    clear hd hne hlo d0 d1 d2 d3 d4 d5 d6 d8 d9 d10 d11 d12 d13 d14
                    have b4 := b3.kept hw
                    have hB4 := up_later hB3 hw
                    clear b3 hB3 hw cS cR
                    go_upto_region 16 with fail
                    obtain ⟨a, ha⟩ : ∃ a, i + x = a := ⟨_, rfl⟩
                    obtain ⟨c, hc⟩ : ∃ c, k + y = c := ⟨_, rfl⟩
                    rw [ha] at hd1 hA2s hx1
                    rw [hc] at hd1 hB2s hy1
                    have q0 := box_at b4 hv3
                    have q1 := box_at b4 hd1
                    have f0 := b4.free (i * 41 + k)
                    have hlt := b4.lt
                    have P0 := Lib.hid (show ∀ W', Below wt.heap.size wt W' → W'.cell? ⟨w.heap.size, i * 41 + k, none⟩ = some (iv t0) from fun W' h => (h.cell (p := ⟨w.heap.size, i * 41 + k, none⟩) hlt).trans q0)
                    have P1 := Lib.hid (show ∀ W', Below wt.heap.size wt W' → W'.cell? ⟨w.heap.size, a * 41 + c, none⟩ = some (iv t1) from fun W' h => (h.cell (p := ⟨w.heap.size, a * 41 + c, none⟩) hlt).trans q1)
                    have hW1 : IntKind.i64.wrap ((s.size : Int) - (A2.size : Int)) = (a : Int) := by rw [wrapK_in _ 3000 (by omega) (by omega)]; omega
                    have hW2 : IntKind.i64.wrap ((r.size : Int) - (B2.size : Int)) = (c : Int) := by rw [wrapK_in _ 3000 (by omega) (by omega)]; omega
                    have hW3 : IntKind.i64.wrap ((en : Int) + (t1 : Int)) = (en : Int) + (t1 : Int) := wrapK_in _ 3000 (by omega) (by omega)
                    have i0x : (0 : Int) ≤ (a : Int) := by omega
                    have i1x : (a : Int) < 41 := by omega
                    have k0y : (0 : Int) ≤ (c : Int) := by omega
                    have k1y : (c : Int) < 41 := by omega
                    have hQ0 : (0 : Int) ≤ (q : Int) := by omega
                    have HMin := Lib.hid (show min (t0 : Int) ((en : Int) + (t1 : Int)) = ((min t0 (en + t1) : Nat) : Int) by omega)
                    clear hv3 hd1 hA2s hB2s hx1 hy1 ht1b ht0b henb q0 q1 ha hc
                    apply wp_region_by 32 [(Fact.eq _), (Fact.eq _), (Fact.eq _), (Fact.eq _), (Fact.eq _), (Fact.eq _), (Fact.eq _), (Fact.eq _), (Fact.eq _), (Fact.eq _), (Fact.eq _), (Fact.eq (iv en)), (Fact.eq _), (Fact.eq _), (Fact.eq _), (Fact.eq _), (Fact.eq _), (Fact.eq (.int .i64 (a : Int))), (Fact.eq _), (Fact.eq _), (Fact.eq _), (Fact.eq _), (Fact.eq (.int .i64 (c : Int))), (Fact.eq _), (Fact.eq _), (Fact.eq _), (Fact.eq _), (Fact.eq (.int .i64 ((en : Int) + (t1 : Int)))), (Fact.eq (iv (min t0 (en + t1) : Nat))), (Fact.eq _), (Fact.eq _), (Fact.eq _)]
                    case hm => kernel_rfl
                    case hB => kernel_rfl
                    case hA => (intro vs; simp only [List.take_succ_cons, List.take_zero, putAll, if_true, Act.put, List.setIfInBounds_toArray, List.set_cons_zero, List.set_cons_succ]; exact rfl)
                    case hstep =>
                      intro vs
                      refine And.intro (fun w hw hd => ?_) ?_
                      · refine ite_yes rfl ?_
                        simp only [Gives]
                        go_simp
                        exact ⟨Below.refl _ _, rfl, fun h => by cases h⟩
                      refine And.intro (fun w hw hd => ?_) ?_
                      · refine ite_yes rfl ?_
                        simp only [Gives]
                        go_simp
                        exact ⟨Below.refl _ _, rfl, fun h => by cases h⟩
                      refine And.intro (fun w hw hd => ?_) ?_
                      · refine ite_yes rfl ?_
                        simp only [Gives]
                        go_simp
                        exact ⟨Below.refl _ _, rfl, fun h => by cases h⟩
                      refine And.intro (fun w hw hd => ?_) ?_
                      · refine ite_yes rfl ?_
                        simp only [Gives]
                        go_simp
                        exact ⟨Below.refl _ _, rfl, fun h => by cases h⟩
                      refine And.intro (fun w hw hd => ?_) ?_
                      · refine ite_yes rfl ?_
                        simp only [Gives]
                        go_simp
                        exact ⟨Below.refl _ _, rfl, fun h => by cases h⟩
                      refine And.intro (fun w hw hd => ?_) ?_
                      · refine ite_yes rfl ?_
                        simp only [Gives]
                        go_simp
                        exact ⟨Below.refl _ _, rfl, fun h => by cases h⟩
                      refine And.intro (fun w hw hd => ?_) ?_
                      · have d3 := hd 3 (by decide) rfl
                        change vs 3 = _ at d3
                        refine ite_yes rfl ?_
                        simp only [Gives]
                        go_simp
                        exact ⟨Below.refl _ _, rfl, fun h => by cases h⟩
                      refine And.intro (fun w hw hd => ?_) ?_
                      · have d6 := hd 6 (by decide) rfl
                        change vs 6 = _ at d6
                        have d4 := hd 4 (by decide) rfl
                        change vs 4 = _ at d4
                        refine ite_yes rfl ?_
                        simp only [Gives]
                        go_simp
                        exact ⟨Below.refl _ _, rfl, fun h => by cases h⟩
                      refine And.intro (fun w hw hd => ?_) ?_
                      · have d7 := hd 7 (by decide) rfl
                        change vs 7 = _ at d7
                        have d5 := hd 5 (by decide) rfl
                        change vs 5 = _ at d5
                        refine ite_yes rfl ?_
                        simp only [Gives]
                        go_simp
                        exact ⟨Below.refl _ _, rfl, fun h => by cases h⟩
                      refine And.intro (fun w hw hd => ?_) ?_
                      · have d8 := hd 8 (by decide) rfl
                        change vs 8 = _ at d8
                        refine ite_yes rfl ?_
                        have p0 := P0.out w hw
                        have p1 := P1.out w hw
                        simp only [Gives]
                        go_simp
                        exact ⟨Below.refl _ _, rfl, fun h => by cases h⟩
                      refine And.intro (fun w hw hd => ?_) ?_
                      · refine ite_yes rfl ?_
                        simp only [Gives]
                        go_simp
                        exact ⟨Below.refl _ _, rfl, fun h => by cases h⟩
                      refine And.intro (fun w hw hd => ?_) ?_
                      · have d10 := hd 10 (by decide) rfl
                        change vs 10 = _ at d10
                        refine ite_yes rfl ?_
                        simp only [Gives]
                        go_simp
                        refine (Cost_any q w hQ0).mono ?_
                        rintro e w7 ⟨rfl, hb⟩
                        rw [HEn.out]
                        exact ⟨_, rfl, hb, rfl, fun h => by cases h⟩
                      refine And.intro (fun w hw hd => ?_) ?_
                      · refine ite_yes rfl ?_
                        simp only [Gives]
                        go_simp
                        exact ⟨Below.refl _ _, rfl, fun h => by cases h⟩
                      refine And.intro (fun w hw hd => ?_) ?_
                      · refine ite_yes rfl ?_
                        simp only [Gives]
                        go_simp
                        exact ⟨Below.refl _ _, rfl, fun h => by cases h⟩
                      refine And.intro (fun w hw hd => ?_) ?_
                      · have d13 := hd 13 (by decide) rfl
                        change vs 13 = _ at d13
                        refine ite_yes rfl ?_
                        simp only [Gives]
                        go_simp
                        exact ⟨Below.refl _ _, rfl, fun h => by cases h⟩
                      refine And.intro (fun w hw hd => ?_) ?_
                      · refine ite_yes rfl ?_
                        simp only [Gives]
                        go_simp
                        exact ⟨Below.refl _ _, rfl, fun h => by cases h⟩
                      refine And.intro (fun w hw hd => ?_) ?_
                      · have d15 := hd 15 (by decide) rfl
                        change vs 15 = _ at d15
                        refine ite_yes rfl ?_
                        simp only [Gives]
                        go_simp
                        exact ⟨Below.refl _ _, rfl, fun h => by cases h⟩
                      refine And.intro (fun w hw hd => ?_) ?_
                      · have d14 := hd 14 (by decide) rfl
                        change vs 14 = _ at d14
                        have d16 := hd 16 (by decide) rfl
                        change vs 16 = _ at d16
                        refine ite_yes rfl ?_
                        simp only [Gives]
                        go_simp
                        (try rw [hW1])
                        exact ⟨Below.refl _ _, rfl, fun h => by cases h⟩
                      refine And.intro (fun w hw hd => ?_) ?_
                      · refine ite_yes rfl ?_
                        simp only [Gives]
                        go_simp
                        exact ⟨Below.refl _ _, rfl, fun h => by cases h⟩
                      refine And.intro (fun w hw hd => ?_) ?_
                      · have d18 := hd 18 (by decide) rfl
                        change vs 18 = _ at d18
                        refine ite_yes rfl ?_
                        simp only [Gives]
                        go_simp
                        exact ⟨Below.refl _ _, rfl, fun h => by cases h⟩
                      refine And.intro (fun w hw hd => ?_) ?_
                      · refine ite_yes rfl ?_
                        simp only [Gives]
                        go_simp
                        exact ⟨Below.refl _ _, rfl, fun h => by cases h⟩
                      refine And.intro (fun w hw hd => ?_) ?_
                      · have d20 := hd 20 (by decide) rfl
                        change vs 20 = _ at d20
                        refine ite_yes rfl ?_
                        simp only [Gives]
                        go_simp
                        exact ⟨Below.refl _ _, rfl, fun h => by cases h⟩
                      refine And.intro (fun w hw hd => ?_) ?_
                      · have d19 := hd 19 (by decide) rfl
                        change vs 19 = _ at d19
                        have d21 := hd 21 (by decide) rfl
                        change vs 21 = _ at d21
                        refine ite_yes rfl ?_
                        simp only [Gives]
                        go_simp
                        (try rw [hW2])
                        exact ⟨Below.refl _ _, rfl, fun h => by cases h⟩
                      refine And.intro (fun w hw hd => ?_) ?_
                      · have d12 := hd 12 (by decide) rfl
                        change vs 12 = _ at d12
                        refine ite_yes rfl ?_
                        simp only [Gives]
                        go_simp
                        exact ⟨Below.refl _ _, rfl, fun h => by cases h⟩
                      refine And.intro (fun w hw hd => ?_) ?_
                      · have d23 := hd 23 (by decide) rfl
                        change vs 23 = _ at d23
                        have d17 := hd 17 (by decide) rfl
                        change vs 17 = _ at d17
                        refine ite_yes rfl ?_
                        simp only [Gives]
                        go_simp
                        exact ⟨Below.refl _ _, rfl, fun h => by cases h⟩
                      refine And.intro (fun w hw hd => ?_) ?_
                      · have d24 := hd 24 (by decide) rfl
                        change vs 24 = _ at d24
                        have d22 := hd 22 (by decide) rfl
                        change vs 22 = _ at d22
                        refine ite_yes rfl ?_
                        simp only [Gives]
                        go_simp
                        exact ⟨Below.refl _ _, rfl, fun h => by cases h⟩
                      refine And.intro (fun w hw hd => ?_) ?_
                      · have d25 := hd 25 (by decide) rfl
                        change vs 25 = _ at d25
                        refine ite_yes rfl ?_
                        have p0 := P0.out w hw
                        have p1 := P1.out w hw
                        simp only [Gives]
                        go_simp
                        exact ⟨Below.refl _ _, rfl, fun h => by cases h⟩
                      refine And.intro (fun w hw hd => ?_) ?_
                      · have d11 := hd 11 (by decide) rfl
                        change vs 11 = _ at d11
                        have d26 := hd 26 (by decide) rfl
                        change vs 26 = _ at d26
                        refine ite_yes rfl ?_
                        simp only [Gives]
                        go_simp
                        (try rw [hW3])
                        exact ⟨Below.refl _ _, rfl, fun h => by cases h⟩
                      refine And.intro (fun w hw hd => ?_) ?_
                      · have d9 := hd 9 (by decide) rfl
                        change vs 9 = _ at d9
                        have d27 := hd 27 (by decide) rfl
                        change vs 27 = _ at d27
                        refine ite_yes rfl ?_
                        simp only [Gives]
                        go_simp
                        exact ⟨Below.refl _ _, congrArg (Value.int .i64) HMin.out, fun h => by cases h⟩
                      refine And.intro (fun w hw hd => ?_) ?_
                      · have d0 := hd 0 (by decide) rfl
                        change vs 0 = _ at d0
                        refine ite_yes rfl ?_
                        simp only [Gives]
                        go_simp
                        exact ⟨Below.refl _ _, rfl, fun h => by cases h⟩
                      refine And.intro (fun w hw hd => ?_) ?_
                      · have d29 := hd 29 (by decide) rfl
                        change vs 29 = _ at d29
                        have d1 := hd 1 (by decide) rfl
                        change vs 1 = _ at d1
                        refine ite_yes rfl ?_
                        simp only [Gives]
                        go_simp
                        exact ⟨Below.refl _ _, rfl, fun h => by cases h⟩
                      refine And.intro (fun w hw hd => ?_) ?_
                      · have d30 := hd 30 (by decide) rfl
                        change vs 30 = _ at d30
                        have d2 := hd 2 (by decide) rfl
                        change vs 2 = _ at d2
                        refine ite_yes rfl ?_
                        simp only [Gives]
                        go_simp
                        exact ⟨Below.refl _ _, rfl, fun h => by cases h⟩
                      exact trivial
                    intro vs wt hw hd hne hlo
                    have d0 := hd 0 (by decide)
                    change vs 0 = _ at d0
                    have d1 := hd 1 (by decide)
                    change vs 1 = _ at d1
                    have d2 := hd 2 (by decide)
                    change vs 2 = _ at d2
                    have d3 := hd 3 (by decide)
                    change vs 3 = _ at d3
                    have d4 := hd 4 (by decide)
                    change vs 4 = _ at d4
                    have d5 := hd 5 (by decide)
                    change vs 5 = _ at d5
                    have d6 := hd 6 (by decide)
                    change vs 6 = _ at d6
                    have d7 := hd 7 (by decide)
                    change vs 7 = _ at d7
                    have d8 := hd 8 (by decide)
                    change vs 8 = _ at d8
                    have d9 := hd 9 (by decide)
                    change vs 9 = _ at d9
                    have d10 := hd 10 (by decide)
                    change vs 10 = _ at d10
                    have d11 := hd 11 (by decide)
                    change vs 11 = _ at d11
                    have d12 := hd 12 (by decide)
                    change vs 12 = _ at d12
                    have d13 := hd 13 (by decide)
                    change vs 13 = _ at d13
                    have d14 := hd 14 (by decide)
                    change vs 14 = _ at d14
                    have d15 := hd 15 (by decide)
                    change vs 15 = _ at d15
                    have d16 := hd 16 (by decide)
                    change vs 16 = _ at d16
                    have d17 := hd 17 (by decide)
                    change vs 17 = _ at d17
                    have d18 := hd 18 (by decide)
                    change vs 18 = _ at d18
                    have d19 := hd 19 (by decide)
                    change vs 19 = _ at d19
                    have d20 := hd 20 (by decide)
                    change vs 20 = _ at d20
                    have d21 := hd 21 (by decide)
                    change vs 21 = _ at d21
                    have d22 := hd 22 (by decide)
                    change vs 22 = _ at d22
                    have d23 := hd 23 (by decide)
                    change vs 23 = _ at d23
                    have d24 := hd 24 (by decide)
                    change vs 24 = _ at d24
                    have d25 := hd 25 (by decide)
                    change vs 25 = _ at d25
                    have d26 := hd 26 (by decide)
                    change vs 26 = _ at d26
                    have d27 := hd 27 (by decide)
                    change vs 27 = _ at d27
                    have d28 := hd 28 (by decide)
                    change vs 28 = _ at d28
                    have d29 := hd 29 (by decide)
                    change vs 29 = _ at d29
                    have d30 := hd 30 (by decide)
                    change vs 30 = _ at d30
                    have d31 := hd 31 (by decide)
                    change vs 31 = _ at d31
                    simp only [d0, d1, d2, d3, d4, d5, d6, d7, d8, d9, d10, d12, d13, d14, d15, d16, d18, d19, d20, d21, d23, d24, d25, d26, d29, d30, d31, List.drop_succ_cons, List.drop_zero]
                    clear hd hne hlo d0 d1 d2 d3 d4 d5 d6 d7 d8 d9 d10 d12 d13 d14 d15 d16 d18 d19 d20 d21 d23 d24 d25 d26 d29 d30 d31
                    have b5 := b4.kept hw
                    have p0 := P0.out _ hw
                    have f0 := b5.free (i * 41 + k)
                    have hB5 := up_later hB4 hw
                    have HB6 := Lib.hid (box_set (x := min t0 (en + t1)) (n := i * 41 + k) b5)
                    have hB6 := up_put hB5 (p := ⟨w.heap.size, i * 41 + k, none⟩) (Nat.le_refl _) (iv (min t0 (en + t1) : Nat))
                    have HI6 := Lib.hid (HI3.out.set (by rw [HRl.out]; exact hr) hk40 (min t0 (en + t1)))
                    have HV6 : Hid ((T3.set (i * 41 + k) (min t0 (en + t1)))[i * 41 + k]? = some (tabN S R (i, k) (q + 1))) := Lib.hid (by
                      rw [List.getElem?_set_self (by rw [HLen.out]; omega), HTab.out])
                    clear hw b5 b4 hB5 hB4
                    go_wp2_with fail
                    go_roundw
                    case rel => exact ⟨q + 1, _, by omega, by go_num, HI6, HV6, HB6, hB6⟩
                    case measure => simp [intOf]; omega
                · have hq5 : ¬ (q : Int) ≤ 5 := by omega
                  obtain rfl : q = 6 := by omega
                  have HD := Lib.hid (show T3.length = 1681 ∧ ∀ a c, a ≤ S.length → c ≤ R.length → (i < a ∨ i = a ∧ k ≤ c) → T3[a * 41 + c]? = some (endsN S R (a, c)) from ⟨HI3.out.len, fun a c ha hc h => by
                    by_cases he : i = a ∧ k = c
                    · obtain ⟨rfl, rfl⟩ := he
                      rw [← tab_six (by rw [HSl.out]; exact hs) (by rw [HRl.out]; exact hr) (p := (i, k)) ha hc]
                      exact HV3.out
                    · exact HI3.out.done a c ha hc (by omega)⟩)
                  go_wp2_with fail
                  go_roundw
                  case rel => exact ⟨k, T3, by omega, by go_num, HD, HB3, hB3⟩
                  case measure => simp [intOf] <;> omega
end Go.Proofs.YtonekgefegfapaaGreat

namespace Go.Proofs.YtonekgefegfapaaGreat
open Go.RowKit

set_option maxRecDepth 100000 in
set_option maxHeartbeats 1500000 in
theorem RErrors_any (s r : ByteArray) (w : World) (hs : s.size ≤ 40) (hr : r.size ≤ 40) (hsig : s.data.toList.all signB = true) :
    Calls Tryz.prog 30 #[.string s, .string r] w fun e w' => e = .returned (.tuple #[iv (endsN s.data.toList r.data.toList (0, 0)), .bool (decide (endsN s.data.toList r.data.toList (0, 0) < 1000))]) ∧ Below w.heap.size w w' := by
  go_enter Tryz.func30, Tryz.ntmps30
  go_wp2_with fail
  refine (Ends_any s r _ hs hr hsig).mono ?_
  rintro e w1 ⟨g, T, rfl, hb, hT, hb1⟩
  have h0 := hT 0 0 (Nat.zero_le _) (Nat.zero_le _)
  have q0 := box_at hb h0
  obtain ⟨N, hN⟩ : ∃ N, endsN s.data.toList r.data.toList (0, 0) = N := ⟨_, rfl⟩
  rw [hN] at q0
  have HN := Lib.hid hN
  have q0 : w1.cell? ⟨g, 0, none⟩ = some (iv N) := by simpa using q0
  clear hT h0 hN hb
  go_wp2_with fail
  go_ret2
  exact ⟨by rw [HN.out]; simp; omega, hb1⟩
def strLen : Value → Nat
  | .string s => s.size
  | _ => 0
theorem pre_step {S R : By} {p q : Nat × Nat} {n : Nat} {pre : List (Nat × Nat × Nat)} (h : pre = nextTo S R p n) (hq : aftI S R p n = some q) : pre ++ [(n, q)] = nextTo S R p (n + 1) := by rw [nextTo_yes hq, h]
theorem str_end {A : ByteArray} {S : By} {i : Nat} (h : A.data.toList = S.drop i) (hi : i ≤ S.length) : (A.toList = [] ↔ i = S.length) := by
  rw [ByteArray.toList_eq, h, List.drop_eq_nil_iff]
  omega
set_option maxRecDepth 100000 in
set_option maxHeartbeats 4000000 in
theorem RExplain_any (s r : ByteArray) (w : World) (hs : s.size ≤ 40) (hr : r.size ≤ 40) (hsig : s.data.toList.all signB = true) (hfew : fewI s.data.toList r.data.toList (0, 0) < 120) :
    Calls Tryz.prog 32 #[.string s, .string r] w fun e w' => ∃ u, e = .returned u ∧ RowsAny w' u 1 ic ((firstI s.data.toList r.data.toList (0, 0)).map fun k : Nat => (k : Int)) ∧ Below w.heap.size w w' := by
  have hSl : s.data.toList.length = s.size := (Lib.size_eq s).symm
  have hRl : r.data.toList.length = r.size := (Lib.size_eq r).symm
  have HSig := Lib.hid hsig
  obtain ⟨S, hS⟩ : ∃ S, s.data.toList = S := ⟨_, rfl⟩
  obtain ⟨R, hR⟩ : ∃ R, r.data.toList = R := ⟨_, rfl⟩
  rw [hS] at hSl hfew hsig ⊢
  rw [hR] at hRl hfew ⊢
  have HS := Lib.hid hS
  have HR := Lib.hid hR
  have HSl := Lib.hid hSl
  have HRl := Lib.hid hRl
  have HF0 := Lib.hid hfew
  have HSg := Lib.hid hsig
  obtain ⟨i0, hi0, hz0, hz1, hz2⟩ := info_parts int_info
  have und25 := Tryz.underlying25
  clear hS hR hsig hSl hRl hfew
  go_enter Tryz.func32, Tryz.ntmps32
  go_wp2_with fail
  refine (Ends_any s r _ hs hr HSig.out).mono ?_
  rintro e w1 ⟨g, T, rfl, hb, hT, hb1⟩
  rw [HS.out, HR.out] at hT
  have HT := Lib.hid hT
  clear hT
  go_wp2_with fail
  go_loopw [6, 7, 8] (fun o a b wr => ∃ i k : Nat, ∃ pre : List Nat, ∃ A B : ByteArray, a = .string A ∧ b = .string B ∧ A.data.toList = S.drop i ∧ B.data.toList = R.drop k ∧ i ≤ s.size ∧ k ≤ r.size ∧ Hid (fewI S R (i, k) < 120 ∧ pre ++ firstI S R (i, k) = firstI S R (0, 0)) ∧ Hid (wr.ownsRow w.heap.size 3 1 o pre.length (pre.map fun k : Nat => iv k)) ∧ Hid (Box wr g 139 (rowC T)) ∧ Below w.heap.size w wr) (fun _ a b _ => strLen a + strLen b)
  case atStart => exact ⟨0, 0, [], s, r, rfl, rfl, HS.out, HR.out, Nat.zero_le _, Nat.zero_le _, Lib.hid ⟨HF0.out, rfl⟩, Lib.hid ⟨by simp, .inl ⟨rfl, by simp⟩⟩, Lib.hid hb, hb1⟩
  case round =>
    obtain ⟨i, k, pre, A, B, rfl, rfl, hA, hB, his, hkr, HF, HO, HB1, hBl⟩ := hrel
    have eA := str_end hA (by rw [HSl.out]; exact his)
    have eB := str_end hB (by rw [HRl.out]; exact hkr)
    have HPl := Lib.hid (show pre.length ≤ 1000 by
      have h1 := congrArg List.length HF.out.2
      have h2 := firstF_len S R (leftN S R (0, 0)) (0, 0)
      have h3 : leftN S R (0, 0) ≤ 80 := by
        unfold leftN
        rw [HSl.out, HRl.out]
        omega
      unfold firstI at h1
      rw [List.length_append] at h1
      omega)
    by_cases hend : (i, k) = (S.length, R.length)
    · injection hend with he1 he2
      have nA := eA.2 he1
      have nB := eB.2 he2
      have HR : Hid (RowsAny wr u6 1 ic ((firstI S R (0, 0)).map fun k : Nat => (k : Int))) := Lib.hid (by
        have h := HF.out.2
        rw [he1, he2, firstI_end, List.append_nil] at h
        rw [← h]
        exact rows_any (text_rows (B := w.heap.size) (by rw [List.length_map, List.map_map]; exact HO.out) (by rw [List.length_map]; exact HPl.out)))
      clear eA eB he1 he2 hA hB
      go_wp2_with fail
      go_ret
      exact ⟨_, rfl, HR.out, hBl⟩
    · have HNe := Lib.hid hend
      by_cases hi : i = S.length
      · have nA := eA.2 hi
        have nB : ¬ B.toList = [] := fun h => hend (by rw [hi, eB.1 h])
        have nB : B.toList.isEmpty = false := by rw [Bool.eq_false_iff]; exact fun h => nB (List.isEmpty_iff.1 h)
        clear hend
        go_wp2_with fail
        clear nA nB hi
        have HF2 := Lib.hid HF.out.1
        have hlt0 : A.size = s.size - i := by rw [Lib.size_eq, hA, List.length_drop, HSl.out]
        have hlt1 : B.size = r.size - k := by rw [Lib.size_eq, hB, List.length_drop, HRl.out]
        clear eA eB
        go_loopw [6, 7, 8, 9] (fun o a b v wr => ∃ q : Nat, q ≤ 6 ∧ v = iv q ∧ o = u6 ∧ a = .string A ∧ b = .string B ∧ Hid (∀ y ∈ nextTo S R (i, k) q, bestB S R (i, k) y = false) ∧ Hid (wr.ownsRow w.heap.size 3 1 u6 pre.length (pre.map fun k : Nat => iv k)) ∧ Hid (Box wr g 139 (rowC T)) ∧ Below w.heap.size w wr) (fun _ _ _ v _ => 6 - (intOf v).toNat)
        case atStart => exact ⟨0, by omega, rfl, rfl, rfl, rfl, Lib.hid (fun y h => by cases h), HO, HB1, hBl⟩
        case round =>
          obtain ⟨q, hq, rfl, rfl, rfl, rfl, HNo, HO3, HB3, hB3⟩ := hrel
          have hq6 : q < 6 := by
            rcases Nat.lt_or_ge q 6 with h | h
            · exact h
            · exfalso
              obtain rfl : q = 6 := by omega
              obtain ⟨x, hx, hb⟩ := best_some (p := (i, k)) (by rw [HSl.out]; exact his) (by rw [HRl.out]; exact hkr) HNe.out HF2.out
              rw [HNo.out x hx] at hb
              cases hb
          have hq5 : (q : Int) ≤ 5 := by omega
          have haft := step_aft (S := S) (R := R) HSg.out (i := i) (k := k) hq6
          rw [← hA, ← hB] at haft
          cases hst : stepR q A.data.toList B.data.toList with
          | none =>
            have HSv := Lib.hid (stepV_none hst)
            rw [hst] at haft
            have HN2 := Lib.hid (show ∀ y ∈ nextTo S R (i, k) (q + 1), bestB S R (i, k) y = false by rw [nextTo_no haft]; exact HNo.out)
            have HA := Lib.hid hA
            have HBb := Lib.hid hB
            clear hst haft hA hB hlt0 hlt1
            go_wp2_with fail
            refine (Step_any q A B _).mono ?_
            rintro e w2 ⟨rfl, hb2⟩
            rw [HSv.out]
            have HO4 := Lib.hid (own_below HO3.out hb2)
            have HB4 := Lib.hid (HB3.out.kept hb2)
            have hB4 := Lib.hid (up_later hB3 hb2)
            clear hb2 hB3 HO3 HB3
            go_wp2_with fail
            apply wp_region_by 37 [(Fact.eq _), (Fact.eq _), (Fact.eq _), (Fact.eq _), (Fact.eq _), (Fact.eq _), (Fact.eq _), (Fact.eq _), (Fact.eq _), (Fact.eq _), (Fact.eq _), (Fact.eq _), (Fact.eq _), (Fact.eq _), (Fact.eq _), (Fact.eq _), (Fact.eq _), (Fact.eq _), (Fact.eq _), (Fact.eq _), (Fact.eq _), (Fact.eq _), (Fact.eq _), (Fact.eq _), (Fact.eq _), (Fact.eq _), (Fact.eq _), (Fact.eq _), (Fact.eq _), (Fact.eq _), (Fact.eq _), (Fact.eq _), (Fact.eq _), (Fact.eq _), (Fact.eq _), (Fact.eq _), (Fact.eq _)]
            case hm => kernel_rfl
            case hB => kernel_rfl
            case hA => (intro vs; simp only [List.take_succ_cons, List.take_zero, putAll, if_true, Act.put, List.setIfInBounds_toArray, List.set_cons_zero, List.set_cons_succ]; exact rfl)
            case hstep =>
              intro vs
              refine And.intro (fun w hw hd => ?_) ?_
              · refine ite_yes rfl ?_
                simp only [Gives]
                go_simp
                exact ⟨Below.refl _ _, rfl, fun h => by cases h⟩
              refine And.intro (fun w hw hd => ?_) ?_
              · have d0 := hd 0 (by decide) rfl
                change vs 0 = _ at d0
                refine ite_yes rfl ?_
                simp only [Gives]
                go_simp
                exact ⟨Below.refl _ _, rfl, fun h => by cases h⟩
              refine And.intro (fun w hw hd => ?_) ?_
              · have d1 := hd 1 (by decide) rfl
                change vs 1 = _ at d1
                refine ite_no (by simp [Region.wanted, yielded, d1]) ?_
                exact ⟨rfl, rfl⟩
              refine And.intro (fun w hw hd => ?_) ?_
              · have d2 := hd 2 (by decide) rfl
                change vs 2 = _ at d2
                have d1 := hd 1 (by decide) rfl
                change vs 1 = _ at d1
                refine ite_no (by simp [Region.wanted, yielded, d1]) ?_
                exact ⟨rfl, rfl⟩
              refine And.intro (fun w hw hd => ?_) ?_
              · have d1 := hd 1 (by decide) rfl
                change vs 1 = _ at d1
                refine ite_no (by simp [Region.wanted, yielded, d1]) ?_
                exact ⟨rfl, rfl⟩
              refine And.intro (fun w hw hd => ?_) ?_
              · have d1 := hd 1 (by decide) rfl
                change vs 1 = _ at d1
                refine ite_no (by simp [Region.wanted, yielded, d1]) ?_
                exact ⟨rfl, rfl⟩
              refine And.intro (fun w hw hd => ?_) ?_
              · have d5 := hd 5 (by decide) rfl
                change vs 5 = _ at d5
                have d1 := hd 1 (by decide) rfl
                change vs 1 = _ at d1
                refine ite_no (by simp [Region.wanted, yielded, d1]) ?_
                exact ⟨rfl, rfl⟩
              refine And.intro (fun w hw hd => ?_) ?_
              · have d1 := hd 1 (by decide) rfl
                change vs 1 = _ at d1
                refine ite_no (by simp [Region.wanted, yielded, d1]) ?_
                exact ⟨rfl, rfl⟩
              refine And.intro (fun w hw hd => ?_) ?_
              · have d7 := hd 7 (by decide) rfl
                change vs 7 = _ at d7
                have d1 := hd 1 (by decide) rfl
                change vs 1 = _ at d1
                refine ite_no (by simp [Region.wanted, yielded, d1]) ?_
                exact ⟨rfl, rfl⟩
              refine And.intro (fun w hw hd => ?_) ?_
              · have d6 := hd 6 (by decide) rfl
                change vs 6 = _ at d6
                have d8 := hd 8 (by decide) rfl
                change vs 8 = _ at d8
                have d1 := hd 1 (by decide) rfl
                change vs 1 = _ at d1
                refine ite_no (by simp [Region.wanted, yielded, d1]) ?_
                exact ⟨rfl, rfl⟩
              refine And.intro (fun w hw hd => ?_) ?_
              · have d1 := hd 1 (by decide) rfl
                change vs 1 = _ at d1
                refine ite_no (by simp [Region.wanted, yielded, d1]) ?_
                exact ⟨rfl, rfl⟩
              refine And.intro (fun w hw hd => ?_) ?_
              · have d10 := hd 10 (by decide) rfl
                change vs 10 = _ at d10
                have d1 := hd 1 (by decide) rfl
                change vs 1 = _ at d1
                refine ite_no (by simp [Region.wanted, yielded, d1]) ?_
                exact ⟨rfl, rfl⟩
              refine And.intro (fun w hw hd => ?_) ?_
              · have d1 := hd 1 (by decide) rfl
                change vs 1 = _ at d1
                refine ite_no (by simp [Region.wanted, yielded, d1]) ?_
                exact ⟨rfl, rfl⟩
              refine And.intro (fun w hw hd => ?_) ?_
              · have d12 := hd 12 (by decide) rfl
                change vs 12 = _ at d12
                have d1 := hd 1 (by decide) rfl
                change vs 1 = _ at d1
                refine ite_no (by simp [Region.wanted, yielded, d1]) ?_
                exact ⟨rfl, rfl⟩
              refine And.intro (fun w hw hd => ?_) ?_
              · have d11 := hd 11 (by decide) rfl
                change vs 11 = _ at d11
                have d13 := hd 13 (by decide) rfl
                change vs 13 = _ at d13
                have d1 := hd 1 (by decide) rfl
                change vs 1 = _ at d1
                refine ite_no (by simp [Region.wanted, yielded, d1]) ?_
                exact ⟨rfl, rfl⟩
              refine And.intro (fun w hw hd => ?_) ?_
              · have d4 := hd 4 (by decide) rfl
                change vs 4 = _ at d4
                have d1 := hd 1 (by decide) rfl
                change vs 1 = _ at d1
                refine ite_no (by simp [Region.wanted, yielded, d1]) ?_
                exact ⟨rfl, rfl⟩
              refine And.intro (fun w hw hd => ?_) ?_
              · have d15 := hd 15 (by decide) rfl
                change vs 15 = _ at d15
                have d9 := hd 9 (by decide) rfl
                change vs 9 = _ at d9
                have d1 := hd 1 (by decide) rfl
                change vs 1 = _ at d1
                refine ite_no (by simp [Region.wanted, yielded, d1]) ?_
                exact ⟨rfl, rfl⟩
              refine And.intro (fun w hw hd => ?_) ?_
              · have d16 := hd 16 (by decide) rfl
                change vs 16 = _ at d16
                have d14 := hd 14 (by decide) rfl
                change vs 14 = _ at d14
                have d1 := hd 1 (by decide) rfl
                change vs 1 = _ at d1
                refine ite_no (by simp [Region.wanted, yielded, d1]) ?_
                exact ⟨rfl, rfl⟩
              refine And.intro (fun w hw hd => ?_) ?_
              · have d17 := hd 17 (by decide) rfl
                change vs 17 = _ at d17
                have d1 := hd 1 (by decide) rfl
                change vs 1 = _ at d1
                refine ite_no (by simp [Region.wanted, yielded, d1]) ?_
                exact ⟨rfl, rfl⟩
              refine And.intro (fun w hw hd => ?_) ?_
              · have d3 := hd 3 (by decide) rfl
                change vs 3 = _ at d3
                have d18 := hd 18 (by decide) rfl
                change vs 18 = _ at d18
                have d1 := hd 1 (by decide) rfl
                change vs 1 = _ at d1
                refine ite_no (by simp [Region.wanted, yielded, d1]) ?_
                exact ⟨rfl, rfl⟩
              refine And.intro (fun w hw hd => ?_) ?_
              · have d1 := hd 1 (by decide) rfl
                change vs 1 = _ at d1
                refine ite_no (by simp [Region.wanted, yielded, d1]) ?_
                exact ⟨rfl, rfl⟩
              refine And.intro (fun w hw hd => ?_) ?_
              · have d1 := hd 1 (by decide) rfl
                change vs 1 = _ at d1
                refine ite_no (by simp [Region.wanted, yielded, d1]) ?_
                exact ⟨rfl, rfl⟩
              refine And.intro (fun w hw hd => ?_) ?_
              · have d21 := hd 21 (by decide) rfl
                change vs 21 = _ at d21
                have d1 := hd 1 (by decide) rfl
                change vs 1 = _ at d1
                refine ite_no (by simp [Region.wanted, yielded, d1]) ?_
                exact ⟨rfl, rfl⟩
              refine And.intro (fun w hw hd => ?_) ?_
              · have d1 := hd 1 (by decide) rfl
                change vs 1 = _ at d1
                refine ite_no (by simp [Region.wanted, yielded, d1]) ?_
                exact ⟨rfl, rfl⟩
              refine And.intro (fun w hw hd => ?_) ?_
              · have d23 := hd 23 (by decide) rfl
                change vs 23 = _ at d23
                have d1 := hd 1 (by decide) rfl
                change vs 1 = _ at d1
                refine ite_no (by simp [Region.wanted, yielded, d1]) ?_
                exact ⟨rfl, rfl⟩
              refine And.intro (fun w hw hd => ?_) ?_
              · have d22 := hd 22 (by decide) rfl
                change vs 22 = _ at d22
                have d24 := hd 24 (by decide) rfl
                change vs 24 = _ at d24
                have d1 := hd 1 (by decide) rfl
                change vs 1 = _ at d1
                refine ite_no (by simp [Region.wanted, yielded, d1]) ?_
                exact ⟨rfl, rfl⟩
              refine And.intro (fun w hw hd => ?_) ?_
              · have d1 := hd 1 (by decide) rfl
                change vs 1 = _ at d1
                refine ite_no (by simp [Region.wanted, yielded, d1]) ?_
                exact ⟨rfl, rfl⟩
              refine And.intro (fun w hw hd => ?_) ?_
              · have d26 := hd 26 (by decide) rfl
                change vs 26 = _ at d26
                have d1 := hd 1 (by decide) rfl
                change vs 1 = _ at d1
                refine ite_no (by simp [Region.wanted, yielded, d1]) ?_
                exact ⟨rfl, rfl⟩
              refine And.intro (fun w hw hd => ?_) ?_
              · have d1 := hd 1 (by decide) rfl
                change vs 1 = _ at d1
                refine ite_no (by simp [Region.wanted, yielded, d1]) ?_
                exact ⟨rfl, rfl⟩
              refine And.intro (fun w hw hd => ?_) ?_
              · have d28 := hd 28 (by decide) rfl
                change vs 28 = _ at d28
                have d1 := hd 1 (by decide) rfl
                change vs 1 = _ at d1
                refine ite_no (by simp [Region.wanted, yielded, d1]) ?_
                exact ⟨rfl, rfl⟩
              refine And.intro (fun w hw hd => ?_) ?_
              · have d27 := hd 27 (by decide) rfl
                change vs 27 = _ at d27
                have d29 := hd 29 (by decide) rfl
                change vs 29 = _ at d29
                have d1 := hd 1 (by decide) rfl
                change vs 1 = _ at d1
                refine ite_no (by simp [Region.wanted, yielded, d1]) ?_
                exact ⟨rfl, rfl⟩
              refine And.intro (fun w hw hd => ?_) ?_
              · have d20 := hd 20 (by decide) rfl
                change vs 20 = _ at d20
                have d1 := hd 1 (by decide) rfl
                change vs 1 = _ at d1
                refine ite_no (by simp [Region.wanted, yielded, d1]) ?_
                exact ⟨rfl, rfl⟩
              refine And.intro (fun w hw hd => ?_) ?_
              · have d31 := hd 31 (by decide) rfl
                change vs 31 = _ at d31
                have d25 := hd 25 (by decide) rfl
                change vs 25 = _ at d25
                have d1 := hd 1 (by decide) rfl
                change vs 1 = _ at d1
                refine ite_no (by simp [Region.wanted, yielded, d1]) ?_
                exact ⟨rfl, rfl⟩
              refine And.intro (fun w hw hd => ?_) ?_
              · have d32 := hd 32 (by decide) rfl
                change vs 32 = _ at d32
                have d30 := hd 30 (by decide) rfl
                change vs 30 = _ at d30
                have d1 := hd 1 (by decide) rfl
                change vs 1 = _ at d1
                refine ite_no (by simp [Region.wanted, yielded, d1]) ?_
                exact ⟨rfl, rfl⟩
              refine And.intro (fun w hw hd => ?_) ?_
              · have d33 := hd 33 (by decide) rfl
                change vs 33 = _ at d33
                have d1 := hd 1 (by decide) rfl
                change vs 1 = _ at d1
                refine ite_no (by simp [Region.wanted, yielded, d1]) ?_
                exact ⟨rfl, rfl⟩
              refine And.intro (fun w hw hd => ?_) ?_
              · have d19 := hd 19 (by decide) rfl
                change vs 19 = _ at d19
                have d34 := hd 34 (by decide) rfl
                change vs 34 = _ at d34
                have d1 := hd 1 (by decide) rfl
                change vs 1 = _ at d1
                refine ite_no (by simp [Region.wanted, yielded, d1]) ?_
                exact ⟨rfl, rfl⟩
              refine And.intro (fun w hw hd => ?_) ?_
              · have d1 := hd 1 (by decide) rfl
                change vs 1 = _ at d1
                have d35 := hd 35 (by decide) rfl
                change vs 35 = _ at d35
                refine ite_yes rfl ?_
                simp only [Gives]
                go_simp
                exact ⟨Below.refl _ _, rfl, fun h => by cases h⟩
              exact trivial
            intro vs wt hw hd hne hlo
            have d0 := hd 0 (by decide)
            change vs 0 = _ at d0
            have d1 := hd 1 (by decide)
            change vs 1 = _ at d1
            have d2 := hd 2 (by decide)
            change vs 2 = _ at d2
            have d3 := hd 3 (by decide)
            change vs 3 = _ at d3
            have d4 := hd 4 (by decide)
            change vs 4 = _ at d4
            have d5 := hd 5 (by decide)
            change vs 5 = _ at d5
            have d6 := hd 6 (by decide)
            change vs 6 = _ at d6
            have d7 := hd 7 (by decide)
            change vs 7 = _ at d7
            have d8 := hd 8 (by decide)
            change vs 8 = _ at d8
            have d9 := hd 9 (by decide)
            change vs 9 = _ at d9
            have d10 := hd 10 (by decide)
            change vs 10 = _ at d10
            have d11 := hd 11 (by decide)
            change vs 11 = _ at d11
            have d12 := hd 12 (by decide)
            change vs 12 = _ at d12
            have d13 := hd 13 (by decide)
            change vs 13 = _ at d13
            have d14 := hd 14 (by decide)
            change vs 14 = _ at d14
            have d15 := hd 15 (by decide)
            change vs 15 = _ at d15
            have d16 := hd 16 (by decide)
            change vs 16 = _ at d16
            have d17 := hd 17 (by decide)
            change vs 17 = _ at d17
            have d18 := hd 18 (by decide)
            change vs 18 = _ at d18
            have d19 := hd 19 (by decide)
            change vs 19 = _ at d19
            have d20 := hd 20 (by decide)
            change vs 20 = _ at d20
            have d21 := hd 21 (by decide)
            change vs 21 = _ at d21
            have d22 := hd 22 (by decide)
            change vs 22 = _ at d22
            have d23 := hd 23 (by decide)
            change vs 23 = _ at d23
            have d24 := hd 24 (by decide)
            change vs 24 = _ at d24
            have d25 := hd 25 (by decide)
            change vs 25 = _ at d25
            have d26 := hd 26 (by decide)
            change vs 26 = _ at d26
            have d27 := hd 27 (by decide)
            change vs 27 = _ at d27
            have d28 := hd 28 (by decide)
            change vs 28 = _ at d28
            have d29 := hd 29 (by decide)
            change vs 29 = _ at d29
            have d30 := hd 30 (by decide)
            change vs 30 = _ at d30
            have d31 := hd 31 (by decide)
            change vs 31 = _ at d31
            have d32 := hd 32 (by decide)
            change vs 32 = _ at d32
            have d33 := hd 33 (by decide)
            change vs 33 = _ at d33
            have d34 := hd 34 (by decide)
            change vs 34 = _ at d34
            have d35 := hd 35 (by decide)
            change vs 35 = _ at d35
            have d36 := hd 36 (by decide)
            change vs 36 = _ at d36
            simp only [d0, d1, d2, d3, d4, d5, d6, d7, d8, d9, d10, d11, d12, d13, d14, d15, d16, d17, d18, d19, d20, d21, d22, d23, d24, d25, d26, d27, d28, d29, d30, d31, d32, d33, d34, d35, d36, List.drop_succ_cons, List.drop_nil]
            clear hd hne hlo d0 d1 d2 d3 d4 d5 d6 d7 d8 d9 d10 d11 d12 d13 d14 d15 d16 d17 d18 d19 d20 d21 d22 d23 d24 d25 d26 d27 d28 d29 d30 d31 d32 d33 d34 d35 d36
            have HO5 := Lib.hid (own_below HO4.out hw)
            have HB5 := Lib.hid (HB4.out.kept hw)
            have hB5 := up_later hB4.out hw
            clear hw
            go_wp2_with fail
            go_roundw
            case rel => exact ⟨q + 1, by omega, by go_num, rfl, rfl, rfl, HN2, HO5, HB5, hB5⟩
            case measure => simp [intOf]; omega
          | some p =>
            obtain ⟨x, y⟩ := p
            have HSv := Lib.hid (stepV_some hst)
            rw [hst] at haft
            have hin := aftI_in hq6 (by rw [HSl.out]; exact his) (by rw [HRl.out]; exact hkr) haft
            obtain ⟨a, ha⟩ : ∃ a, i + x = a := ⟨_, rfl⟩
            obtain ⟨c, hc⟩ : ∃ c, k + y = c := ⟨_, rfl⟩
            have hA3 := drop_cut (i := x) hA
            have hB4 := drop_cut (i := y) hB
            have haft2 : aftI S R (i, k) q = some (a, c) := by rw [← ha, ← hc]; exact haft
            rw [ha] at hA3 hin
            rw [hc] at hB4 hin
            obtain ⟨A2, hA2⟩ : ∃ A2, A.extract x A.size = A2 := ⟨_, rfl⟩
            obtain ⟨B2, hB2x⟩ : ∃ B2, B.extract y B.size = B2 := ⟨_, rfl⟩
            rw [hA2] at hA3
            rw [hB2x] at hB4
            rw [hA2, hB2x] at HSv
            obtain ⟨t1, ht1⟩ : ∃ t1, endsN S R (a, c) = t1 := ⟨_, rfl⟩
            obtain ⟨t0, ht0⟩ : ∃ t0, endsN S R (i, k) = t0 := ⟨_, rfl⟩
            obtain ⟨en, hen⟩ : ∃ en, errsN q = en := ⟨_, rfl⟩
            obtain ⟨bb, hbb⟩ : ∃ bb, bestB S R (i, k) (q, a, c) = bb := ⟨_, rfl⟩
            have heb := ends_best (p := (i, k)) (x := (q, a, c)) HF2.out hin.2.1 hin.2.2.2.1
            simp only at heb
            rw [hen, ht1, ht0, hbb] at heb
            have HEq := Lib.hid (show (((en : Int) + (t1 : Int)) == (t0 : Int)) = bb by
              rw [← heb, Bool.eq_iff_iff, beq_iff_eq, beq_iff_eq]
              omega)
            have hx1 : a ≤ s.size := by rw [← HSl.out]; exact hin.2.1
            have hy1 : c ≤ r.size := by rw [← HRl.out]; exact hin.2.2.2.1
            have c0 := HT.out a c hx1 hy1
            have c1 := HT.out i k his hkr
            rw [ht1] at c0
            rw [ht0] at c1
            have ht1b : t1 ≤ 1000 := by rw [← ht1]; exact ends_le _ _ _
            have henb : en ≤ 1 := by rw [← hen]; unfold errsN; split <;> omega
            have HEn := Lib.hid (show errsN ((q : Int)).toNat = en by rw [Int.toNat_natCast]; exact hen)
            have hA2s : A2.size = s.size - a := by rw [Lib.size_eq, hA3, List.length_drop, HSl.out]
            have hB2s : B2.size = r.size - c := by rw [Lib.size_eq, hB4, List.length_drop, HRl.out]
            have HSum := Lib.hid (show i + k < a + c from hin.2.2.2.2)
            have HAft := Lib.hid haft2
            have HA := Lib.hid hA
            have HBb := Lib.hid hB
            have HA3 := Lib.hid hA3
            have HB3x := Lib.hid hB4
            have Hbb := Lib.hid hbb
            clear hst haft haft2 hA hB hA2 hB2x ht0 ht1 hen hin ha hc hA3 hB4 heb hbb
            go_wp2_with fail
            refine (Step_any q A B _).mono ?_
            rintro e w2 ⟨rfl, hb2⟩
            rw [HSv.out]
            have HO4 := Lib.hid (own_below HO3.out hb2)
            have HB4 := Lib.hid (HB3.out.kept hb2)
            have hB4 := Lib.hid (up_later hB3 hb2)
            have q0 := box_at HB4.out c0
            have q1 := box_at HB4.out c1
            have hlt := HB4.out.lt
            have P0 := Lib.hid (show ∀ W', Below w2.heap.size w2 W' → W'.cell? ⟨g, a * 41 + c, none⟩ = some (iv t1) from fun W' h => (h.cell (p := ⟨g, a * 41 + c, none⟩) hlt).trans q0)
            have P1 := Lib.hid (show ∀ W', Below w2.heap.size w2 W' → W'.cell? ⟨g, i * 41 + k, none⟩ = some (iv t0) from fun W' h => (h.cell (p := ⟨g, i * 41 + k, none⟩) hlt).trans q1)
            have hW1 : IntKind.i64.wrap ((s.size : Int) - (A2.size : Int)) = (a : Int) := by rw [wrapK_in _ 3000 (by omega) (by omega)]; omega
            have hW2 : IntKind.i64.wrap ((r.size : Int) - (B2.size : Int)) = (c : Int) := by rw [wrapK_in _ 3000 (by omega) (by omega)]; omega
            have hW4 : IntKind.i64.wrap ((s.size : Int) - (A.size : Int)) = (i : Int) := by rw [wrapK_in _ 3000 (by omega) (by omega)]; omega
            have hW5 : IntKind.i64.wrap ((r.size : Int) - (B.size : Int)) = (k : Int) := by rw [wrapK_in _ 3000 (by omega) (by omega)]; omega
            have hW3 : IntKind.i64.wrap ((en : Int) + (t1 : Int)) = (en : Int) + (t1 : Int) := wrapK_in _ 3000 (by omega) (by omega)
            have i0x : (0 : Int) ≤ (a : Int) := by omega
            have i1x : (a : Int) < 41 := by omega
            have k0y : (0 : Int) ≤ (c : Int) := by omega
            have k1y : (c : Int) < 41 := by omega
            have i0z : (0 : Int) ≤ (i : Int) := by omega
            have i1z : (i : Int) < 41 := by omega
            have k0z : (0 : Int) ≤ (k : Int) := by omega
            have k1z : (k : Int) < 41 := by omega
            have hQ0 : (0 : Int) ≤ (q : Int) := by omega
            have HSz := Lib.hid (show A2.size + B2.size < A.size + B.size by have := HSum.out; omega)
            clear hb2 hB3 HO3 HB3 c0 c1 q0 q1 hlt ht1b henb hA2s hB2s hlt0 hlt1
            go_wp2_with fail
            apply wp_region_by 37 [(Fact.eq _), (Fact.eq _), (Fact.eq _), (Fact.eq (iv en)), (Fact.eq _), (Fact.eq _), (Fact.eq _), (Fact.eq _), (Fact.eq _), (Fact.eq (.int .i64 (a : Int))), (Fact.eq _), (Fact.eq _), (Fact.eq _), (Fact.eq _), (Fact.eq (.int .i64 (c : Int))), (Fact.eq _), (Fact.eq _), (Fact.eq _), (Fact.eq _), (Fact.eq (.int .i64 ((en : Int) + (t1 : Int)))), (Fact.eq _), (Fact.eq _), (Fact.eq _), (Fact.eq _), (Fact.eq _), (Fact.eq (.int .i64 (i : Int))), (Fact.eq _), (Fact.eq _), (Fact.eq _), (Fact.eq _), (Fact.eq (.int .i64 (k : Int))), (Fact.eq _), (Fact.eq _), (Fact.eq _), (Fact.eq _), (Fact.eq (.bool bb)), (Fact.eq _)]
            case hm => kernel_rfl
            case hB => kernel_rfl
            case hA => (intro vs; simp only [List.take_succ_cons, List.take_zero, putAll, if_true, Act.put, List.setIfInBounds_toArray, List.set_cons_zero, List.set_cons_succ]; exact rfl)
            case hstep =>
              intro vs
              refine And.intro (fun w hw hd => ?_) ?_
              · refine ite_yes rfl ?_
                simp only [Gives]
                go_simp
                exact ⟨Below.refl _ _, rfl, fun h => by cases h⟩
              refine And.intro (fun w hw hd => ?_) ?_
              · have d0 := hd 0 (by decide) rfl
                change vs 0 = _ at d0
                refine ite_yes rfl ?_
                simp only [Gives]
                go_simp
                exact ⟨Below.refl _ _, rfl, fun h => by cases h⟩
              refine And.intro (fun w hw hd => ?_) ?_
              · have d1 := hd 1 (by decide) rfl
                change vs 1 = _ at d1
                refine ite_yes (by simp [Region.wanted, yielded, d1]) ?_
                simp only [Gives]
                go_simp
                exact ⟨Below.refl _ _, rfl, fun h => by cases h⟩
              refine And.intro (fun w hw hd => ?_) ?_
              · have d2 := hd 2 (by decide) rfl
                change vs 2 = _ at d2
                have d1 := hd 1 (by decide) rfl
                change vs 1 = _ at d1
                refine ite_yes (by simp [Region.wanted, yielded, d1]) ?_
                simp only [Gives]
                go_simp
                refine (Cost_any q w hQ0).mono ?_
                rintro e w7 ⟨rfl, hb⟩
                rw [HEn.out]
                exact ⟨_, rfl, hb, rfl, fun h => by cases h⟩
              refine And.intro (fun w hw hd => ?_) ?_
              · have d1 := hd 1 (by decide) rfl
                change vs 1 = _ at d1
                refine ite_yes (by simp [Region.wanted, yielded, d1]) ?_
                simp only [Gives]
                go_simp
                exact ⟨Below.refl _ _, rfl, fun h => by cases h⟩
              refine And.intro (fun w hw hd => ?_) ?_
              · have d1 := hd 1 (by decide) rfl
                change vs 1 = _ at d1
                refine ite_yes (by simp [Region.wanted, yielded, d1]) ?_
                simp only [Gives]
                go_simp
                exact ⟨Below.refl _ _, rfl, fun h => by cases h⟩
              refine And.intro (fun w hw hd => ?_) ?_
              · have d5 := hd 5 (by decide) rfl
                change vs 5 = _ at d5
                have d1 := hd 1 (by decide) rfl
                change vs 1 = _ at d1
                refine ite_yes (by simp [Region.wanted, yielded, d1]) ?_
                simp only [Gives]
                go_simp
                exact ⟨Below.refl _ _, rfl, fun h => by cases h⟩
              refine And.intro (fun w hw hd => ?_) ?_
              · have d1 := hd 1 (by decide) rfl
                change vs 1 = _ at d1
                refine ite_yes (by simp [Region.wanted, yielded, d1]) ?_
                simp only [Gives]
                go_simp
                exact ⟨Below.refl _ _, rfl, fun h => by cases h⟩
              refine And.intro (fun w hw hd => ?_) ?_
              · have d7 := hd 7 (by decide) rfl
                change vs 7 = _ at d7
                have d1 := hd 1 (by decide) rfl
                change vs 1 = _ at d1
                refine ite_yes (by simp [Region.wanted, yielded, d1]) ?_
                simp only [Gives]
                go_simp
                exact ⟨Below.refl _ _, rfl, fun h => by cases h⟩
              refine And.intro (fun w hw hd => ?_) ?_
              · have d6 := hd 6 (by decide) rfl
                change vs 6 = _ at d6
                have d8 := hd 8 (by decide) rfl
                change vs 8 = _ at d8
                have d1 := hd 1 (by decide) rfl
                change vs 1 = _ at d1
                refine ite_yes (by simp [Region.wanted, yielded, d1]) ?_
                simp only [Gives]
                go_simp
                (try rw [hW1])
                exact ⟨Below.refl _ _, rfl, fun h => by cases h⟩
              refine And.intro (fun w hw hd => ?_) ?_
              · have d1 := hd 1 (by decide) rfl
                change vs 1 = _ at d1
                refine ite_yes (by simp [Region.wanted, yielded, d1]) ?_
                simp only [Gives]
                go_simp
                exact ⟨Below.refl _ _, rfl, fun h => by cases h⟩
              refine And.intro (fun w hw hd => ?_) ?_
              · have d10 := hd 10 (by decide) rfl
                change vs 10 = _ at d10
                have d1 := hd 1 (by decide) rfl
                change vs 1 = _ at d1
                refine ite_yes (by simp [Region.wanted, yielded, d1]) ?_
                simp only [Gives]
                go_simp
                exact ⟨Below.refl _ _, rfl, fun h => by cases h⟩
              refine And.intro (fun w hw hd => ?_) ?_
              · have d1 := hd 1 (by decide) rfl
                change vs 1 = _ at d1
                refine ite_yes (by simp [Region.wanted, yielded, d1]) ?_
                simp only [Gives]
                go_simp
                exact ⟨Below.refl _ _, rfl, fun h => by cases h⟩
              refine And.intro (fun w hw hd => ?_) ?_
              · have d12 := hd 12 (by decide) rfl
                change vs 12 = _ at d12
                have d1 := hd 1 (by decide) rfl
                change vs 1 = _ at d1
                refine ite_yes (by simp [Region.wanted, yielded, d1]) ?_
                simp only [Gives]
                go_simp
                exact ⟨Below.refl _ _, rfl, fun h => by cases h⟩
              refine And.intro (fun w hw hd => ?_) ?_
              · have d11 := hd 11 (by decide) rfl
                change vs 11 = _ at d11
                have d13 := hd 13 (by decide) rfl
                change vs 13 = _ at d13
                have d1 := hd 1 (by decide) rfl
                change vs 1 = _ at d1
                refine ite_yes (by simp [Region.wanted, yielded, d1]) ?_
                simp only [Gives]
                go_simp
                (try rw [hW2])
                exact ⟨Below.refl _ _, rfl, fun h => by cases h⟩
              refine And.intro (fun w hw hd => ?_) ?_
              · have d4 := hd 4 (by decide) rfl
                change vs 4 = _ at d4
                have d1 := hd 1 (by decide) rfl
                change vs 1 = _ at d1
                refine ite_yes (by simp [Region.wanted, yielded, d1]) ?_
                simp only [Gives]
                go_simp
                exact ⟨Below.refl _ _, rfl, fun h => by cases h⟩
              refine And.intro (fun w hw hd => ?_) ?_
              · have d15 := hd 15 (by decide) rfl
                change vs 15 = _ at d15
                have d9 := hd 9 (by decide) rfl
                change vs 9 = _ at d9
                have d1 := hd 1 (by decide) rfl
                change vs 1 = _ at d1
                refine ite_yes (by simp [Region.wanted, yielded, d1]) ?_
                simp only [Gives]
                go_simp
                exact ⟨Below.refl _ _, rfl, fun h => by cases h⟩
              refine And.intro (fun w hw hd => ?_) ?_
              · have d16 := hd 16 (by decide) rfl
                change vs 16 = _ at d16
                have d14 := hd 14 (by decide) rfl
                change vs 14 = _ at d14
                have d1 := hd 1 (by decide) rfl
                change vs 1 = _ at d1
                refine ite_yes (by simp [Region.wanted, yielded, d1]) ?_
                simp only [Gives]
                go_simp
                exact ⟨Below.refl _ _, rfl, fun h => by cases h⟩
              refine And.intro (fun w hw hd => ?_) ?_
              · have d17 := hd 17 (by decide) rfl
                change vs 17 = _ at d17
                have d1 := hd 1 (by decide) rfl
                change vs 1 = _ at d1
                refine ite_yes (by simp [Region.wanted, yielded, d1]) ?_
                have p0 := P0.out w hw
                have p1 := P1.out w hw
                simp only [Gives]
                go_simp
                exact ⟨Below.refl _ _, rfl, fun h => by cases h⟩
              refine And.intro (fun w hw hd => ?_) ?_
              · have d3 := hd 3 (by decide) rfl
                change vs 3 = _ at d3
                have d18 := hd 18 (by decide) rfl
                change vs 18 = _ at d18
                have d1 := hd 1 (by decide) rfl
                change vs 1 = _ at d1
                refine ite_yes (by simp [Region.wanted, yielded, d1]) ?_
                simp only [Gives]
                go_simp
                (try rw [hW3])
                exact ⟨Below.refl _ _, rfl, fun h => by cases h⟩
              refine And.intro (fun w hw hd => ?_) ?_
              · have d1 := hd 1 (by decide) rfl
                change vs 1 = _ at d1
                refine ite_yes (by simp [Region.wanted, yielded, d1]) ?_
                simp only [Gives]
                go_simp
                exact ⟨Below.refl _ _, rfl, fun h => by cases h⟩
              refine And.intro (fun w hw hd => ?_) ?_
              · have d1 := hd 1 (by decide) rfl
                change vs 1 = _ at d1
                refine ite_yes (by simp [Region.wanted, yielded, d1]) ?_
                simp only [Gives]
                go_simp
                exact ⟨Below.refl _ _, rfl, fun h => by cases h⟩
              refine And.intro (fun w hw hd => ?_) ?_
              · have d21 := hd 21 (by decide) rfl
                change vs 21 = _ at d21
                have d1 := hd 1 (by decide) rfl
                change vs 1 = _ at d1
                refine ite_yes (by simp [Region.wanted, yielded, d1]) ?_
                simp only [Gives]
                go_simp
                exact ⟨Below.refl _ _, rfl, fun h => by cases h⟩
              refine And.intro (fun w hw hd => ?_) ?_
              · have d1 := hd 1 (by decide) rfl
                change vs 1 = _ at d1
                refine ite_yes (by simp [Region.wanted, yielded, d1]) ?_
                simp only [Gives]
                go_simp
                exact ⟨Below.refl _ _, rfl, fun h => by cases h⟩
              refine And.intro (fun w hw hd => ?_) ?_
              · have d23 := hd 23 (by decide) rfl
                change vs 23 = _ at d23
                have d1 := hd 1 (by decide) rfl
                change vs 1 = _ at d1
                refine ite_yes (by simp [Region.wanted, yielded, d1]) ?_
                simp only [Gives]
                go_simp
                exact ⟨Below.refl _ _, rfl, fun h => by cases h⟩
              refine And.intro (fun w hw hd => ?_) ?_
              · have d22 := hd 22 (by decide) rfl
                change vs 22 = _ at d22
                have d24 := hd 24 (by decide) rfl
                change vs 24 = _ at d24
                have d1 := hd 1 (by decide) rfl
                change vs 1 = _ at d1
                refine ite_yes (by simp [Region.wanted, yielded, d1]) ?_
                simp only [Gives]
                go_simp
                (try rw [hW4])
                exact ⟨Below.refl _ _, rfl, fun h => by cases h⟩
              refine And.intro (fun w hw hd => ?_) ?_
              · have d1 := hd 1 (by decide) rfl
                change vs 1 = _ at d1
                refine ite_yes (by simp [Region.wanted, yielded, d1]) ?_
                simp only [Gives]
                go_simp
                exact ⟨Below.refl _ _, rfl, fun h => by cases h⟩
              refine And.intro (fun w hw hd => ?_) ?_
              · have d26 := hd 26 (by decide) rfl
                change vs 26 = _ at d26
                have d1 := hd 1 (by decide) rfl
                change vs 1 = _ at d1
                refine ite_yes (by simp [Region.wanted, yielded, d1]) ?_
                simp only [Gives]
                go_simp
                exact ⟨Below.refl _ _, rfl, fun h => by cases h⟩
              refine And.intro (fun w hw hd => ?_) ?_
              · have d1 := hd 1 (by decide) rfl
                change vs 1 = _ at d1
                refine ite_yes (by simp [Region.wanted, yielded, d1]) ?_
                simp only [Gives]
                go_simp
                exact ⟨Below.refl _ _, rfl, fun h => by cases h⟩
              refine And.intro (fun w hw hd => ?_) ?_
              · have d28 := hd 28 (by decide) rfl
                change vs 28 = _ at d28
                have d1 := hd 1 (by decide) rfl
                change vs 1 = _ at d1
                refine ite_yes (by simp [Region.wanted, yielded, d1]) ?_
                simp only [Gives]
                go_simp
                exact ⟨Below.refl _ _, rfl, fun h => by cases h⟩
              refine And.intro (fun w hw hd => ?_) ?_
              · have d27 := hd 27 (by decide) rfl
                change vs 27 = _ at d27
                have d29 := hd 29 (by decide) rfl
                change vs 29 = _ at d29
                have d1 := hd 1 (by decide) rfl
                change vs 1 = _ at d1
                refine ite_yes (by simp [Region.wanted, yielded, d1]) ?_
                simp only [Gives]
                go_simp
                (try rw [hW5])
                exact ⟨Below.refl _ _, rfl, fun h => by cases h⟩
              refine And.intro (fun w hw hd => ?_) ?_
              · have d20 := hd 20 (by decide) rfl
                change vs 20 = _ at d20
                have d1 := hd 1 (by decide) rfl
                change vs 1 = _ at d1
                refine ite_yes (by simp [Region.wanted, yielded, d1]) ?_
                simp only [Gives]
                go_simp
                exact ⟨Below.refl _ _, rfl, fun h => by cases h⟩
              refine And.intro (fun w hw hd => ?_) ?_
              · have d31 := hd 31 (by decide) rfl
                change vs 31 = _ at d31
                have d25 := hd 25 (by decide) rfl
                change vs 25 = _ at d25
                have d1 := hd 1 (by decide) rfl
                change vs 1 = _ at d1
                refine ite_yes (by simp [Region.wanted, yielded, d1]) ?_
                simp only [Gives]
                go_simp
                exact ⟨Below.refl _ _, rfl, fun h => by cases h⟩
              refine And.intro (fun w hw hd => ?_) ?_
              · have d32 := hd 32 (by decide) rfl
                change vs 32 = _ at d32
                have d30 := hd 30 (by decide) rfl
                change vs 30 = _ at d30
                have d1 := hd 1 (by decide) rfl
                change vs 1 = _ at d1
                refine ite_yes (by simp [Region.wanted, yielded, d1]) ?_
                simp only [Gives]
                go_simp
                exact ⟨Below.refl _ _, rfl, fun h => by cases h⟩
              refine And.intro (fun w hw hd => ?_) ?_
              · have d33 := hd 33 (by decide) rfl
                change vs 33 = _ at d33
                have d1 := hd 1 (by decide) rfl
                change vs 1 = _ at d1
                refine ite_yes (by simp [Region.wanted, yielded, d1]) ?_
                have p0 := P0.out w hw
                have p1 := P1.out w hw
                simp only [Gives]
                go_simp
                exact ⟨Below.refl _ _, rfl, fun h => by cases h⟩
              refine And.intro (fun w hw hd => ?_) ?_
              · have d19 := hd 19 (by decide) rfl
                change vs 19 = _ at d19
                have d34 := hd 34 (by decide) rfl
                change vs 34 = _ at d34
                have d1 := hd 1 (by decide) rfl
                change vs 1 = _ at d1
                refine ite_yes (by simp [Region.wanted, yielded, d1]) ?_
                simp only [Gives]
                go_simp
                rw [HEq.out]
                exact ⟨Below.refl _ _, rfl, fun h => by cases h⟩
              refine And.intro (fun w hw hd => ?_) ?_
              · have d1 := hd 1 (by decide) rfl
                change vs 1 = _ at d1
                have d35 := hd 35 (by decide) rfl
                change vs 35 = _ at d35
                refine ite_yes rfl ?_
                simp only [Gives]
                go_simp
                exact ⟨Below.refl _ _, rfl, fun h => by cases h⟩
              exact trivial
            intro vs wt hw hd hne hlo
            have d0 := hd 0 (by decide)
            change vs 0 = _ at d0
            have d1 := hd 1 (by decide)
            change vs 1 = _ at d1
            have d2 := hd 2 (by decide)
            change vs 2 = _ at d2
            have d3 := hd 3 (by decide)
            change vs 3 = _ at d3
            have d4 := hd 4 (by decide)
            change vs 4 = _ at d4
            have d5 := hd 5 (by decide)
            change vs 5 = _ at d5
            have d6 := hd 6 (by decide)
            change vs 6 = _ at d6
            have d7 := hd 7 (by decide)
            change vs 7 = _ at d7
            have d8 := hd 8 (by decide)
            change vs 8 = _ at d8
            have d9 := hd 9 (by decide)
            change vs 9 = _ at d9
            have d10 := hd 10 (by decide)
            change vs 10 = _ at d10
            have d11 := hd 11 (by decide)
            change vs 11 = _ at d11
            have d12 := hd 12 (by decide)
            change vs 12 = _ at d12
            have d13 := hd 13 (by decide)
            change vs 13 = _ at d13
            have d14 := hd 14 (by decide)
            change vs 14 = _ at d14
            have d15 := hd 15 (by decide)
            change vs 15 = _ at d15
            have d16 := hd 16 (by decide)
            change vs 16 = _ at d16
            have d17 := hd 17 (by decide)
            change vs 17 = _ at d17
            have d18 := hd 18 (by decide)
            change vs 18 = _ at d18
            have d19 := hd 19 (by decide)
            change vs 19 = _ at d19
            have d20 := hd 20 (by decide)
            change vs 20 = _ at d20
            have d21 := hd 21 (by decide)
            change vs 21 = _ at d21
            have d22 := hd 22 (by decide)
            change vs 22 = _ at d22
            have d23 := hd 23 (by decide)
            change vs 23 = _ at d23
            have d24 := hd 24 (by decide)
            change vs 24 = _ at d24
            have d25 := hd 25 (by decide)
            change vs 25 = _ at d25
            have d26 := hd 26 (by decide)
            change vs 26 = _ at d26
            have d27 := hd 27 (by decide)
            change vs 27 = _ at d27
            have d28 := hd 28 (by decide)
            change vs 28 = _ at d28
            have d29 := hd 29 (by decide)
            change vs 29 = _ at d29
            have d30 := hd 30 (by decide)
            change vs 30 = _ at d30
            have d31 := hd 31 (by decide)
            change vs 31 = _ at d31
            have d32 := hd 32 (by decide)
            change vs 32 = _ at d32
            have d33 := hd 33 (by decide)
            change vs 33 = _ at d33
            have d34 := hd 34 (by decide)
            change vs 34 = _ at d34
            have d35 := hd 35 (by decide)
            change vs 35 = _ at d35
            have d36 := hd 36 (by decide)
            change vs 36 = _ at d36
            simp only [d0, d1, d2, d4, d5, d6, d7, d8, d10, d11, d12, d13, d15, d16, d17, d18, d20, d21, d22, d23, d24, d26, d27, d28, d29, d31, d32, d33, d34, d36, List.drop_succ_cons, List.drop_nil]
            clear hd hne hlo d0 d1 d2 d4 d5 d6 d7 d8 d10 d11 d12 d13 d15 d16 d17 d18 d20 d21 d22 d23 d24 d26 d27 d28 d29 d31 d32 d33 d34 d36
            have HO5 := Lib.hid (own_below HO4.out hw)
            have HB5 := Lib.hid (HB4.out.kept hw)
            have hB5 := up_later hB4.out hw
            have hzB := hB5.size
            clear hw
            cases bb with
            | false =>
              have HN2 := Lib.hid (show ∀ y ∈ nextTo S R (i, k) (q + 1), bestB S R (i, k) y = false by
                rw [nextTo_yes HAft.out]
                intro z hz
                rcases List.mem_append.1 hz with h | h
                · exact HNo.out z h
                · rw [List.mem_singleton.1 h]
                  exact Hbb.out)
              go_wp2_with fail
              go_roundw
              case rel => exact ⟨q + 1, by omega, by go_num, rfl, rfl, rfl, HN2, HO5, HB5, hB5⟩
              case measure => simp [intOf]; omega
            | true =>
              have hF5 := firstI_step (i := i) (j := k) (k := q) (a := a) (c := c) (n := q + 1) (pre := nextTo S R (i, k) q) (by rw [HSl.out]; exact his) (by rw [HRl.out]; exact hkr) HNe.out (by omega) hq6 HAft.out (nextTo_yes HAft.out).symm HNo.out Hbb.out
              have HF5 := Lib.hid (show fewI S R (a, c) < 120 ∧ (pre ++ [q]) ++ firstI S R (a, c) = firstI S R (0, 0) from ⟨best_lt (x := (q, a, c)) Hbb.out HF2.out, by
                rw [List.append_assoc, List.singleton_append, ← hF5]
                exact HF.out.2⟩)
              have hpl := HPl.out
              obtain ⟨A3, m3, p3, hform⟩ := own_form HO5.out
              subst hform
              clear hF5
              go_wp2_with (at_builtin; refine wpList_append_own_at _ rfl (.tmp 73) (.tmp 75) 25 rfl w.heap.size 3 i0 _ 1 8 und25 hi0 hz0 hz1 hz2 rfl (by decide) _ _ _ rfl (own_below HO5.out (up_alloc up0 _)) ⟨wt.heap.size, 0, none⟩ 1 1 [iv q] rfl rfl (box_newsM (Box.new rfl)) (by simp [Value.oneCell']) (by unfold maxLen; omega) (by omega) (by simp; omega) ?_; intro v' w3 hown' hgrow _ _)
              have hO' := own_below HO5.out (w' := wt.alloc (.cells #[iv q] 3)) (up_alloc up0 _)
              have bg := HB5.out.alloc (.cells #[iv q] 3)
              have HB6 := Lib.hid (bg.grown hgrow (box_not_own bg (by decide) hO'))
              have hB6 := (up_alloc hB5 _).grown hgrow (by simp; omega) (fun b' hb' => (hO'.lt b' hb').1)
              have HO6 : Hid (w3.ownsRow w.heap.size 3 1 v' (pre ++ [q]).length ((pre ++ [q]).map fun k : Nat => iv k)) := Lib.hid (by
                rw [List.length_append, List.map_append]
                exact hown')
              clear hown' hgrow hO' bg
              exact ⟨⟨a, c, pre ++ [q], A2, B2, rfl, rfl, HA3.out, HB3x.out, hx1, hy1, HF5, HO6, HB6, hB6⟩, HSz.out⟩
      · have nA : ¬ A.toList = [] := fun h => hi (eA.1 h)
        have nA : A.toList.isEmpty = false := by rw [Bool.eq_false_iff]; exact fun h => nA (List.isEmpty_iff.1 h)
        clear hend hi
        go_wp2_with fail
        clear nA
        have HF2 := Lib.hid HF.out.1
        have hlt0 : A.size = s.size - i := by rw [Lib.size_eq, hA, List.length_drop, HSl.out]
        have hlt1 : B.size = r.size - k := by rw [Lib.size_eq, hB, List.length_drop, HRl.out]
        clear eA eB
        go_loopw [6, 7, 8, 9] (fun o a b v wr => ∃ q : Nat, q ≤ 6 ∧ v = iv q ∧ o = u6 ∧ a = .string A ∧ b = .string B ∧ Hid (∀ y ∈ nextTo S R (i, k) q, bestB S R (i, k) y = false) ∧ Hid (wr.ownsRow w.heap.size 3 1 u6 pre.length (pre.map fun k : Nat => iv k)) ∧ Hid (Box wr g 139 (rowC T)) ∧ Below w.heap.size w wr) (fun _ _ _ v _ => 6 - (intOf v).toNat)
        case atStart => exact ⟨0, by omega, rfl, rfl, rfl, rfl, Lib.hid (fun y h => by cases h), HO, HB1, hBl⟩
        case round =>
          obtain ⟨q, hq, rfl, rfl, rfl, rfl, HNo, HO3, HB3, hB3⟩ := hrel
          have hq6 : q < 6 := by
            rcases Nat.lt_or_ge q 6 with h | h
            · exact h
            · exfalso
              obtain rfl : q = 6 := by omega
              obtain ⟨x, hx, hb⟩ := best_some (p := (i, k)) (by rw [HSl.out]; exact his) (by rw [HRl.out]; exact hkr) HNe.out HF2.out
              rw [HNo.out x hx] at hb
              cases hb
          have hq5 : (q : Int) ≤ 5 := by omega
          have haft := step_aft (S := S) (R := R) HSg.out (i := i) (k := k) hq6
          rw [← hA, ← hB] at haft
          cases hst : stepR q A.data.toList B.data.toList with
          | none =>
            have HSv := Lib.hid (stepV_none hst)
            rw [hst] at haft
            have HN2 := Lib.hid (show ∀ y ∈ nextTo S R (i, k) (q + 1), bestB S R (i, k) y = false by rw [nextTo_no haft]; exact HNo.out)
            have HA := Lib.hid hA
            have HBb := Lib.hid hB
            clear hst haft hA hB hlt0 hlt1
            go_wp2_with fail
            refine (Step_any q A B _).mono ?_
            rintro e w2 ⟨rfl, hb2⟩
            rw [HSv.out]
            have HO4 := Lib.hid (own_below HO3.out hb2)
            have HB4 := Lib.hid (HB3.out.kept hb2)
            have hB4 := Lib.hid (up_later hB3 hb2)
            clear hb2 hB3 HO3 HB3
            go_wp2_with fail
            apply wp_region_by 37 [(Fact.eq _), (Fact.eq _), (Fact.eq _), (Fact.eq _), (Fact.eq _), (Fact.eq _), (Fact.eq _), (Fact.eq _), (Fact.eq _), (Fact.eq _), (Fact.eq _), (Fact.eq _), (Fact.eq _), (Fact.eq _), (Fact.eq _), (Fact.eq _), (Fact.eq _), (Fact.eq _), (Fact.eq _), (Fact.eq _), (Fact.eq _), (Fact.eq _), (Fact.eq _), (Fact.eq _), (Fact.eq _), (Fact.eq _), (Fact.eq _), (Fact.eq _), (Fact.eq _), (Fact.eq _), (Fact.eq _), (Fact.eq _), (Fact.eq _), (Fact.eq _), (Fact.eq _), (Fact.eq _), (Fact.eq _)]
            case hm => kernel_rfl
            case hB => kernel_rfl
            case hA => (intro vs; simp only [List.take_succ_cons, List.take_zero, putAll, if_true, Act.put, List.setIfInBounds_toArray, List.set_cons_zero, List.set_cons_succ]; exact rfl)
            case hstep =>
              intro vs
              refine And.intro (fun w hw hd => ?_) ?_
              · refine ite_yes rfl ?_
                simp only [Gives]
                go_simp
                exact ⟨Below.refl _ _, rfl, fun h => by cases h⟩
              refine And.intro (fun w hw hd => ?_) ?_
              · have d0 := hd 0 (by decide) rfl
                change vs 0 = _ at d0
                refine ite_yes rfl ?_
                simp only [Gives]
                go_simp
                exact ⟨Below.refl _ _, rfl, fun h => by cases h⟩
              refine And.intro (fun w hw hd => ?_) ?_
              · have d1 := hd 1 (by decide) rfl
                change vs 1 = _ at d1
                refine ite_no (by simp [Region.wanted, yielded, d1]) ?_
                exact ⟨rfl, rfl⟩
              refine And.intro (fun w hw hd => ?_) ?_
              · have d2 := hd 2 (by decide) rfl
                change vs 2 = _ at d2
                have d1 := hd 1 (by decide) rfl
                change vs 1 = _ at d1
                refine ite_no (by simp [Region.wanted, yielded, d1]) ?_
                exact ⟨rfl, rfl⟩
              refine And.intro (fun w hw hd => ?_) ?_
              · have d1 := hd 1 (by decide) rfl
                change vs 1 = _ at d1
                refine ite_no (by simp [Region.wanted, yielded, d1]) ?_
                exact ⟨rfl, rfl⟩
              refine And.intro (fun w hw hd => ?_) ?_
              · have d1 := hd 1 (by decide) rfl
                change vs 1 = _ at d1
                refine ite_no (by simp [Region.wanted, yielded, d1]) ?_
                exact ⟨rfl, rfl⟩
              refine And.intro (fun w hw hd => ?_) ?_
              · have d5 := hd 5 (by decide) rfl
                change vs 5 = _ at d5
                have d1 := hd 1 (by decide) rfl
                change vs 1 = _ at d1
                refine ite_no (by simp [Region.wanted, yielded, d1]) ?_
                exact ⟨rfl, rfl⟩
              refine And.intro (fun w hw hd => ?_) ?_
              · have d1 := hd 1 (by decide) rfl
                change vs 1 = _ at d1
                refine ite_no (by simp [Region.wanted, yielded, d1]) ?_
                exact ⟨rfl, rfl⟩
              refine And.intro (fun w hw hd => ?_) ?_
              · have d7 := hd 7 (by decide) rfl
                change vs 7 = _ at d7
                have d1 := hd 1 (by decide) rfl
                change vs 1 = _ at d1
                refine ite_no (by simp [Region.wanted, yielded, d1]) ?_
                exact ⟨rfl, rfl⟩
              refine And.intro (fun w hw hd => ?_) ?_
              · have d6 := hd 6 (by decide) rfl
                change vs 6 = _ at d6
                have d8 := hd 8 (by decide) rfl
                change vs 8 = _ at d8
                have d1 := hd 1 (by decide) rfl
                change vs 1 = _ at d1
                refine ite_no (by simp [Region.wanted, yielded, d1]) ?_
                exact ⟨rfl, rfl⟩
              refine And.intro (fun w hw hd => ?_) ?_
              · have d1 := hd 1 (by decide) rfl
                change vs 1 = _ at d1
                refine ite_no (by simp [Region.wanted, yielded, d1]) ?_
                exact ⟨rfl, rfl⟩
              refine And.intro (fun w hw hd => ?_) ?_
              · have d10 := hd 10 (by decide) rfl
                change vs 10 = _ at d10
                have d1 := hd 1 (by decide) rfl
                change vs 1 = _ at d1
                refine ite_no (by simp [Region.wanted, yielded, d1]) ?_
                exact ⟨rfl, rfl⟩
              refine And.intro (fun w hw hd => ?_) ?_
              · have d1 := hd 1 (by decide) rfl
                change vs 1 = _ at d1
                refine ite_no (by simp [Region.wanted, yielded, d1]) ?_
                exact ⟨rfl, rfl⟩
              refine And.intro (fun w hw hd => ?_) ?_
              · have d12 := hd 12 (by decide) rfl
                change vs 12 = _ at d12
                have d1 := hd 1 (by decide) rfl
                change vs 1 = _ at d1
                refine ite_no (by simp [Region.wanted, yielded, d1]) ?_
                exact ⟨rfl, rfl⟩
              refine And.intro (fun w hw hd => ?_) ?_
              · have d11 := hd 11 (by decide) rfl
                change vs 11 = _ at d11
                have d13 := hd 13 (by decide) rfl
                change vs 13 = _ at d13
                have d1 := hd 1 (by decide) rfl
                change vs 1 = _ at d1
                refine ite_no (by simp [Region.wanted, yielded, d1]) ?_
                exact ⟨rfl, rfl⟩
              refine And.intro (fun w hw hd => ?_) ?_
              · have d4 := hd 4 (by decide) rfl
                change vs 4 = _ at d4
                have d1 := hd 1 (by decide) rfl
                change vs 1 = _ at d1
                refine ite_no (by simp [Region.wanted, yielded, d1]) ?_
                exact ⟨rfl, rfl⟩
              refine And.intro (fun w hw hd => ?_) ?_
              · have d15 := hd 15 (by decide) rfl
                change vs 15 = _ at d15
                have d9 := hd 9 (by decide) rfl
                change vs 9 = _ at d9
                have d1 := hd 1 (by decide) rfl
                change vs 1 = _ at d1
                refine ite_no (by simp [Region.wanted, yielded, d1]) ?_
                exact ⟨rfl, rfl⟩
              refine And.intro (fun w hw hd => ?_) ?_
              · have d16 := hd 16 (by decide) rfl
                change vs 16 = _ at d16
                have d14 := hd 14 (by decide) rfl
                change vs 14 = _ at d14
                have d1 := hd 1 (by decide) rfl
                change vs 1 = _ at d1
                refine ite_no (by simp [Region.wanted, yielded, d1]) ?_
                exact ⟨rfl, rfl⟩
              refine And.intro (fun w hw hd => ?_) ?_
              · have d17 := hd 17 (by decide) rfl
                change vs 17 = _ at d17
                have d1 := hd 1 (by decide) rfl
                change vs 1 = _ at d1
                refine ite_no (by simp [Region.wanted, yielded, d1]) ?_
                exact ⟨rfl, rfl⟩
              refine And.intro (fun w hw hd => ?_) ?_
              · have d3 := hd 3 (by decide) rfl
                change vs 3 = _ at d3
                have d18 := hd 18 (by decide) rfl
                change vs 18 = _ at d18
                have d1 := hd 1 (by decide) rfl
                change vs 1 = _ at d1
                refine ite_no (by simp [Region.wanted, yielded, d1]) ?_
                exact ⟨rfl, rfl⟩
              refine And.intro (fun w hw hd => ?_) ?_
              · have d1 := hd 1 (by decide) rfl
                change vs 1 = _ at d1
                refine ite_no (by simp [Region.wanted, yielded, d1]) ?_
                exact ⟨rfl, rfl⟩
              refine And.intro (fun w hw hd => ?_) ?_
              · have d1 := hd 1 (by decide) rfl
                change vs 1 = _ at d1
                refine ite_no (by simp [Region.wanted, yielded, d1]) ?_
                exact ⟨rfl, rfl⟩
              refine And.intro (fun w hw hd => ?_) ?_
              · have d21 := hd 21 (by decide) rfl
                change vs 21 = _ at d21
                have d1 := hd 1 (by decide) rfl
                change vs 1 = _ at d1
                refine ite_no (by simp [Region.wanted, yielded, d1]) ?_
                exact ⟨rfl, rfl⟩
              refine And.intro (fun w hw hd => ?_) ?_
              · have d1 := hd 1 (by decide) rfl
                change vs 1 = _ at d1
                refine ite_no (by simp [Region.wanted, yielded, d1]) ?_
                exact ⟨rfl, rfl⟩
              refine And.intro (fun w hw hd => ?_) ?_
              · have d23 := hd 23 (by decide) rfl
                change vs 23 = _ at d23
                have d1 := hd 1 (by decide) rfl
                change vs 1 = _ at d1
                refine ite_no (by simp [Region.wanted, yielded, d1]) ?_
                exact ⟨rfl, rfl⟩
              refine And.intro (fun w hw hd => ?_) ?_
              · have d22 := hd 22 (by decide) rfl
                change vs 22 = _ at d22
                have d24 := hd 24 (by decide) rfl
                change vs 24 = _ at d24
                have d1 := hd 1 (by decide) rfl
                change vs 1 = _ at d1
                refine ite_no (by simp [Region.wanted, yielded, d1]) ?_
                exact ⟨rfl, rfl⟩
              refine And.intro (fun w hw hd => ?_) ?_
              · have d1 := hd 1 (by decide) rfl
                change vs 1 = _ at d1
                refine ite_no (by simp [Region.wanted, yielded, d1]) ?_
                exact ⟨rfl, rfl⟩
              refine And.intro (fun w hw hd => ?_) ?_
              · have d26 := hd 26 (by decide) rfl
                change vs 26 = _ at d26
                have d1 := hd 1 (by decide) rfl
                change vs 1 = _ at d1
                refine ite_no (by simp [Region.wanted, yielded, d1]) ?_
                exact ⟨rfl, rfl⟩
              refine And.intro (fun w hw hd => ?_) ?_
              · have d1 := hd 1 (by decide) rfl
                change vs 1 = _ at d1
                refine ite_no (by simp [Region.wanted, yielded, d1]) ?_
                exact ⟨rfl, rfl⟩
              refine And.intro (fun w hw hd => ?_) ?_
              · have d28 := hd 28 (by decide) rfl
                change vs 28 = _ at d28
                have d1 := hd 1 (by decide) rfl
                change vs 1 = _ at d1
                refine ite_no (by simp [Region.wanted, yielded, d1]) ?_
                exact ⟨rfl, rfl⟩
              refine And.intro (fun w hw hd => ?_) ?_
              · have d27 := hd 27 (by decide) rfl
                change vs 27 = _ at d27
                have d29 := hd 29 (by decide) rfl
                change vs 29 = _ at d29
                have d1 := hd 1 (by decide) rfl
                change vs 1 = _ at d1
                refine ite_no (by simp [Region.wanted, yielded, d1]) ?_
                exact ⟨rfl, rfl⟩
              refine And.intro (fun w hw hd => ?_) ?_
              · have d20 := hd 20 (by decide) rfl
                change vs 20 = _ at d20
                have d1 := hd 1 (by decide) rfl
                change vs 1 = _ at d1
                refine ite_no (by simp [Region.wanted, yielded, d1]) ?_
                exact ⟨rfl, rfl⟩
              refine And.intro (fun w hw hd => ?_) ?_
              · have d31 := hd 31 (by decide) rfl
                change vs 31 = _ at d31
                have d25 := hd 25 (by decide) rfl
                change vs 25 = _ at d25
                have d1 := hd 1 (by decide) rfl
                change vs 1 = _ at d1
                refine ite_no (by simp [Region.wanted, yielded, d1]) ?_
                exact ⟨rfl, rfl⟩
              refine And.intro (fun w hw hd => ?_) ?_
              · have d32 := hd 32 (by decide) rfl
                change vs 32 = _ at d32
                have d30 := hd 30 (by decide) rfl
                change vs 30 = _ at d30
                have d1 := hd 1 (by decide) rfl
                change vs 1 = _ at d1
                refine ite_no (by simp [Region.wanted, yielded, d1]) ?_
                exact ⟨rfl, rfl⟩
              refine And.intro (fun w hw hd => ?_) ?_
              · have d33 := hd 33 (by decide) rfl
                change vs 33 = _ at d33
                have d1 := hd 1 (by decide) rfl
                change vs 1 = _ at d1
                refine ite_no (by simp [Region.wanted, yielded, d1]) ?_
                exact ⟨rfl, rfl⟩
              refine And.intro (fun w hw hd => ?_) ?_
              · have d19 := hd 19 (by decide) rfl
                change vs 19 = _ at d19
                have d34 := hd 34 (by decide) rfl
                change vs 34 = _ at d34
                have d1 := hd 1 (by decide) rfl
                change vs 1 = _ at d1
                refine ite_no (by simp [Region.wanted, yielded, d1]) ?_
                exact ⟨rfl, rfl⟩
              refine And.intro (fun w hw hd => ?_) ?_
              · have d1 := hd 1 (by decide) rfl
                change vs 1 = _ at d1
                have d35 := hd 35 (by decide) rfl
                change vs 35 = _ at d35
                refine ite_yes rfl ?_
                simp only [Gives]
                go_simp
                exact ⟨Below.refl _ _, rfl, fun h => by cases h⟩
              exact trivial
            intro vs wt hw hd hne hlo
            have d0 := hd 0 (by decide)
            change vs 0 = _ at d0
            have d1 := hd 1 (by decide)
            change vs 1 = _ at d1
            have d2 := hd 2 (by decide)
            change vs 2 = _ at d2
            have d3 := hd 3 (by decide)
            change vs 3 = _ at d3
            have d4 := hd 4 (by decide)
            change vs 4 = _ at d4
            have d5 := hd 5 (by decide)
            change vs 5 = _ at d5
            have d6 := hd 6 (by decide)
            change vs 6 = _ at d6
            have d7 := hd 7 (by decide)
            change vs 7 = _ at d7
            have d8 := hd 8 (by decide)
            change vs 8 = _ at d8
            have d9 := hd 9 (by decide)
            change vs 9 = _ at d9
            have d10 := hd 10 (by decide)
            change vs 10 = _ at d10
            have d11 := hd 11 (by decide)
            change vs 11 = _ at d11
            have d12 := hd 12 (by decide)
            change vs 12 = _ at d12
            have d13 := hd 13 (by decide)
            change vs 13 = _ at d13
            have d14 := hd 14 (by decide)
            change vs 14 = _ at d14
            have d15 := hd 15 (by decide)
            change vs 15 = _ at d15
            have d16 := hd 16 (by decide)
            change vs 16 = _ at d16
            have d17 := hd 17 (by decide)
            change vs 17 = _ at d17
            have d18 := hd 18 (by decide)
            change vs 18 = _ at d18
            have d19 := hd 19 (by decide)
            change vs 19 = _ at d19
            have d20 := hd 20 (by decide)
            change vs 20 = _ at d20
            have d21 := hd 21 (by decide)
            change vs 21 = _ at d21
            have d22 := hd 22 (by decide)
            change vs 22 = _ at d22
            have d23 := hd 23 (by decide)
            change vs 23 = _ at d23
            have d24 := hd 24 (by decide)
            change vs 24 = _ at d24
            have d25 := hd 25 (by decide)
            change vs 25 = _ at d25
            have d26 := hd 26 (by decide)
            change vs 26 = _ at d26
            have d27 := hd 27 (by decide)
            change vs 27 = _ at d27
            have d28 := hd 28 (by decide)
            change vs 28 = _ at d28
            have d29 := hd 29 (by decide)
            change vs 29 = _ at d29
            have d30 := hd 30 (by decide)
            change vs 30 = _ at d30
            have d31 := hd 31 (by decide)
            change vs 31 = _ at d31
            have d32 := hd 32 (by decide)
            change vs 32 = _ at d32
            have d33 := hd 33 (by decide)
            change vs 33 = _ at d33
            have d34 := hd 34 (by decide)
            change vs 34 = _ at d34
            have d35 := hd 35 (by decide)
            change vs 35 = _ at d35
            have d36 := hd 36 (by decide)
            change vs 36 = _ at d36
            simp only [d0, d1, d2, d3, d4, d5, d6, d7, d8, d9, d10, d11, d12, d13, d14, d15, d16, d17, d18, d19, d20, d21, d22, d23, d24, d25, d26, d27, d28, d29, d30, d31, d32, d33, d34, d35, d36, List.drop_succ_cons, List.drop_nil]
            clear hd hne hlo d0 d1 d2 d3 d4 d5 d6 d7 d8 d9 d10 d11 d12 d13 d14 d15 d16 d17 d18 d19 d20 d21 d22 d23 d24 d25 d26 d27 d28 d29 d30 d31 d32 d33 d34 d35 d36
            have HO5 := Lib.hid (own_below HO4.out hw)
            have HB5 := Lib.hid (HB4.out.kept hw)
            have hB5 := up_later hB4.out hw
            clear hw
            go_wp2_with fail
            go_roundw
            case rel => exact ⟨q + 1, by omega, by go_num, rfl, rfl, rfl, HN2, HO5, HB5, hB5⟩
            case measure => simp [intOf]; omega
          | some p =>
            obtain ⟨x, y⟩ := p
            have HSv := Lib.hid (stepV_some hst)
            rw [hst] at haft
            have hin := aftI_in hq6 (by rw [HSl.out]; exact his) (by rw [HRl.out]; exact hkr) haft
            obtain ⟨a, ha⟩ : ∃ a, i + x = a := ⟨_, rfl⟩
            obtain ⟨c, hc⟩ : ∃ c, k + y = c := ⟨_, rfl⟩
            have hA3 := drop_cut (i := x) hA
            have hB4 := drop_cut (i := y) hB
            have haft2 : aftI S R (i, k) q = some (a, c) := by rw [← ha, ← hc]; exact haft
            rw [ha] at hA3 hin
            rw [hc] at hB4 hin
            obtain ⟨A2, hA2⟩ : ∃ A2, A.extract x A.size = A2 := ⟨_, rfl⟩
            obtain ⟨B2, hB2x⟩ : ∃ B2, B.extract y B.size = B2 := ⟨_, rfl⟩
            rw [hA2] at hA3
            rw [hB2x] at hB4
            rw [hA2, hB2x] at HSv
            obtain ⟨t1, ht1⟩ : ∃ t1, endsN S R (a, c) = t1 := ⟨_, rfl⟩
            obtain ⟨t0, ht0⟩ : ∃ t0, endsN S R (i, k) = t0 := ⟨_, rfl⟩
            obtain ⟨en, hen⟩ : ∃ en, errsN q = en := ⟨_, rfl⟩
            obtain ⟨bb, hbb⟩ : ∃ bb, bestB S R (i, k) (q, a, c) = bb := ⟨_, rfl⟩
            have heb := ends_best (p := (i, k)) (x := (q, a, c)) HF2.out hin.2.1 hin.2.2.2.1
            simp only at heb
            rw [hen, ht1, ht0, hbb] at heb
            have HEq := Lib.hid (show (((en : Int) + (t1 : Int)) == (t0 : Int)) = bb by
              rw [← heb, Bool.eq_iff_iff, beq_iff_eq, beq_iff_eq]
              omega)
            have hx1 : a ≤ s.size := by rw [← HSl.out]; exact hin.2.1
            have hy1 : c ≤ r.size := by rw [← HRl.out]; exact hin.2.2.2.1
            have c0 := HT.out a c hx1 hy1
            have c1 := HT.out i k his hkr
            rw [ht1] at c0
            rw [ht0] at c1
            have ht1b : t1 ≤ 1000 := by rw [← ht1]; exact ends_le _ _ _
            have henb : en ≤ 1 := by rw [← hen]; unfold errsN; split <;> omega
            have HEn := Lib.hid (show errsN ((q : Int)).toNat = en by rw [Int.toNat_natCast]; exact hen)
            have hA2s : A2.size = s.size - a := by rw [Lib.size_eq, hA3, List.length_drop, HSl.out]
            have hB2s : B2.size = r.size - c := by rw [Lib.size_eq, hB4, List.length_drop, HRl.out]
            have HSum := Lib.hid (show i + k < a + c from hin.2.2.2.2)
            have HAft := Lib.hid haft2
            have HA := Lib.hid hA
            have HBb := Lib.hid hB
            have HA3 := Lib.hid hA3
            have HB3x := Lib.hid hB4
            have Hbb := Lib.hid hbb
            clear hst haft haft2 hA hB hA2 hB2x ht0 ht1 hen hin ha hc hA3 hB4 heb hbb
            go_wp2_with fail
            refine (Step_any q A B _).mono ?_
            rintro e w2 ⟨rfl, hb2⟩
            rw [HSv.out]
            have HO4 := Lib.hid (own_below HO3.out hb2)
            have HB4 := Lib.hid (HB3.out.kept hb2)
            have hB4 := Lib.hid (up_later hB3 hb2)
            have q0 := box_at HB4.out c0
            have q1 := box_at HB4.out c1
            have hlt := HB4.out.lt
            have P0 := Lib.hid (show ∀ W', Below w2.heap.size w2 W' → W'.cell? ⟨g, a * 41 + c, none⟩ = some (iv t1) from fun W' h => (h.cell (p := ⟨g, a * 41 + c, none⟩) hlt).trans q0)
            have P1 := Lib.hid (show ∀ W', Below w2.heap.size w2 W' → W'.cell? ⟨g, i * 41 + k, none⟩ = some (iv t0) from fun W' h => (h.cell (p := ⟨g, i * 41 + k, none⟩) hlt).trans q1)
            have hW1 : IntKind.i64.wrap ((s.size : Int) - (A2.size : Int)) = (a : Int) := by rw [wrapK_in _ 3000 (by omega) (by omega)]; omega
            have hW2 : IntKind.i64.wrap ((r.size : Int) - (B2.size : Int)) = (c : Int) := by rw [wrapK_in _ 3000 (by omega) (by omega)]; omega
            have hW4 : IntKind.i64.wrap ((s.size : Int) - (A.size : Int)) = (i : Int) := by rw [wrapK_in _ 3000 (by omega) (by omega)]; omega
            have hW5 : IntKind.i64.wrap ((r.size : Int) - (B.size : Int)) = (k : Int) := by rw [wrapK_in _ 3000 (by omega) (by omega)]; omega
            have hW3 : IntKind.i64.wrap ((en : Int) + (t1 : Int)) = (en : Int) + (t1 : Int) := wrapK_in _ 3000 (by omega) (by omega)
            have i0x : (0 : Int) ≤ (a : Int) := by omega
            have i1x : (a : Int) < 41 := by omega
            have k0y : (0 : Int) ≤ (c : Int) := by omega
            have k1y : (c : Int) < 41 := by omega
            have i0z : (0 : Int) ≤ (i : Int) := by omega
            have i1z : (i : Int) < 41 := by omega
            have k0z : (0 : Int) ≤ (k : Int) := by omega
            have k1z : (k : Int) < 41 := by omega
            have hQ0 : (0 : Int) ≤ (q : Int) := by omega
            have HSz := Lib.hid (show A2.size + B2.size < A.size + B.size by have := HSum.out; omega)
            clear hb2 hB3 HO3 HB3 c0 c1 q0 q1 hlt ht1b henb hA2s hB2s hlt0 hlt1
            go_wp2_with fail
            apply wp_region_by 37 [(Fact.eq _), (Fact.eq _), (Fact.eq _), (Fact.eq (iv en)), (Fact.eq _), (Fact.eq _), (Fact.eq _), (Fact.eq _), (Fact.eq _), (Fact.eq (.int .i64 (a : Int))), (Fact.eq _), (Fact.eq _), (Fact.eq _), (Fact.eq _), (Fact.eq (.int .i64 (c : Int))), (Fact.eq _), (Fact.eq _), (Fact.eq _), (Fact.eq _), (Fact.eq (.int .i64 ((en : Int) + (t1 : Int)))), (Fact.eq _), (Fact.eq _), (Fact.eq _), (Fact.eq _), (Fact.eq _), (Fact.eq (.int .i64 (i : Int))), (Fact.eq _), (Fact.eq _), (Fact.eq _), (Fact.eq _), (Fact.eq (.int .i64 (k : Int))), (Fact.eq _), (Fact.eq _), (Fact.eq _), (Fact.eq _), (Fact.eq (.bool bb)), (Fact.eq _)]
            case hm => kernel_rfl
            case hB => kernel_rfl
            case hA => (intro vs; simp only [List.take_succ_cons, List.take_zero, putAll, if_true, Act.put, List.setIfInBounds_toArray, List.set_cons_zero, List.set_cons_succ]; exact rfl)
            case hstep =>
              intro vs
              refine And.intro (fun w hw hd => ?_) ?_
              · refine ite_yes rfl ?_
                simp only [Gives]
                go_simp
                exact ⟨Below.refl _ _, rfl, fun h => by cases h⟩
              refine And.intro (fun w hw hd => ?_) ?_
              · have d0 := hd 0 (by decide) rfl
                change vs 0 = _ at d0
                refine ite_yes rfl ?_
                simp only [Gives]
                go_simp
                exact ⟨Below.refl _ _, rfl, fun h => by cases h⟩
              refine And.intro (fun w hw hd => ?_) ?_
              · have d1 := hd 1 (by decide) rfl
                change vs 1 = _ at d1
                refine ite_yes (by simp [Region.wanted, yielded, d1]) ?_
                simp only [Gives]
                go_simp
                exact ⟨Below.refl _ _, rfl, fun h => by cases h⟩
              refine And.intro (fun w hw hd => ?_) ?_
              · have d2 := hd 2 (by decide) rfl
                change vs 2 = _ at d2
                have d1 := hd 1 (by decide) rfl
                change vs 1 = _ at d1
                refine ite_yes (by simp [Region.wanted, yielded, d1]) ?_
                simp only [Gives]
                go_simp
                refine (Cost_any q w hQ0).mono ?_
                rintro e w7 ⟨rfl, hb⟩
                rw [HEn.out]
                exact ⟨_, rfl, hb, rfl, fun h => by cases h⟩
              refine And.intro (fun w hw hd => ?_) ?_
              · have d1 := hd 1 (by decide) rfl
                change vs 1 = _ at d1
                refine ite_yes (by simp [Region.wanted, yielded, d1]) ?_
                simp only [Gives]
                go_simp
                exact ⟨Below.refl _ _, rfl, fun h => by cases h⟩
              refine And.intro (fun w hw hd => ?_) ?_
              · have d1 := hd 1 (by decide) rfl
                change vs 1 = _ at d1
                refine ite_yes (by simp [Region.wanted, yielded, d1]) ?_
                simp only [Gives]
                go_simp
                exact ⟨Below.refl _ _, rfl, fun h => by cases h⟩
              refine And.intro (fun w hw hd => ?_) ?_
              · have d5 := hd 5 (by decide) rfl
                change vs 5 = _ at d5
                have d1 := hd 1 (by decide) rfl
                change vs 1 = _ at d1
                refine ite_yes (by simp [Region.wanted, yielded, d1]) ?_
                simp only [Gives]
                go_simp
                exact ⟨Below.refl _ _, rfl, fun h => by cases h⟩
              refine And.intro (fun w hw hd => ?_) ?_
              · have d1 := hd 1 (by decide) rfl
                change vs 1 = _ at d1
                refine ite_yes (by simp [Region.wanted, yielded, d1]) ?_
                simp only [Gives]
                go_simp
                exact ⟨Below.refl _ _, rfl, fun h => by cases h⟩
              refine And.intro (fun w hw hd => ?_) ?_
              · have d7 := hd 7 (by decide) rfl
                change vs 7 = _ at d7
                have d1 := hd 1 (by decide) rfl
                change vs 1 = _ at d1
                refine ite_yes (by simp [Region.wanted, yielded, d1]) ?_
                simp only [Gives]
                go_simp
                exact ⟨Below.refl _ _, rfl, fun h => by cases h⟩
              refine And.intro (fun w hw hd => ?_) ?_
              · have d6 := hd 6 (by decide) rfl
                change vs 6 = _ at d6
                have d8 := hd 8 (by decide) rfl
                change vs 8 = _ at d8
                have d1 := hd 1 (by decide) rfl
                change vs 1 = _ at d1
                refine ite_yes (by simp [Region.wanted, yielded, d1]) ?_
                simp only [Gives]
                go_simp
                (try rw [hW1])
                exact ⟨Below.refl _ _, rfl, fun h => by cases h⟩
              refine And.intro (fun w hw hd => ?_) ?_
              · have d1 := hd 1 (by decide) rfl
                change vs 1 = _ at d1
                refine ite_yes (by simp [Region.wanted, yielded, d1]) ?_
                simp only [Gives]
                go_simp
                exact ⟨Below.refl _ _, rfl, fun h => by cases h⟩
              refine And.intro (fun w hw hd => ?_) ?_
              · have d10 := hd 10 (by decide) rfl
                change vs 10 = _ at d10
                have d1 := hd 1 (by decide) rfl
                change vs 1 = _ at d1
                refine ite_yes (by simp [Region.wanted, yielded, d1]) ?_
                simp only [Gives]
                go_simp
                exact ⟨Below.refl _ _, rfl, fun h => by cases h⟩
              refine And.intro (fun w hw hd => ?_) ?_
              · have d1 := hd 1 (by decide) rfl
                change vs 1 = _ at d1
                refine ite_yes (by simp [Region.wanted, yielded, d1]) ?_
                simp only [Gives]
                go_simp
                exact ⟨Below.refl _ _, rfl, fun h => by cases h⟩
              refine And.intro (fun w hw hd => ?_) ?_
              · have d12 := hd 12 (by decide) rfl
                change vs 12 = _ at d12
                have d1 := hd 1 (by decide) rfl
                change vs 1 = _ at d1
                refine ite_yes (by simp [Region.wanted, yielded, d1]) ?_
                simp only [Gives]
                go_simp
                exact ⟨Below.refl _ _, rfl, fun h => by cases h⟩
              refine And.intro (fun w hw hd => ?_) ?_
              · have d11 := hd 11 (by decide) rfl
                change vs 11 = _ at d11
                have d13 := hd 13 (by decide) rfl
                change vs 13 = _ at d13
                have d1 := hd 1 (by decide) rfl
                change vs 1 = _ at d1
                refine ite_yes (by simp [Region.wanted, yielded, d1]) ?_
                simp only [Gives]
                go_simp
                (try rw [hW2])
                exact ⟨Below.refl _ _, rfl, fun h => by cases h⟩
              refine And.intro (fun w hw hd => ?_) ?_
              · have d4 := hd 4 (by decide) rfl
                change vs 4 = _ at d4
                have d1 := hd 1 (by decide) rfl
                change vs 1 = _ at d1
                refine ite_yes (by simp [Region.wanted, yielded, d1]) ?_
                simp only [Gives]
                go_simp
                exact ⟨Below.refl _ _, rfl, fun h => by cases h⟩
              refine And.intro (fun w hw hd => ?_) ?_
              · have d15 := hd 15 (by decide) rfl
                change vs 15 = _ at d15
                have d9 := hd 9 (by decide) rfl
                change vs 9 = _ at d9
                have d1 := hd 1 (by decide) rfl
                change vs 1 = _ at d1
                refine ite_yes (by simp [Region.wanted, yielded, d1]) ?_
                simp only [Gives]
                go_simp
                exact ⟨Below.refl _ _, rfl, fun h => by cases h⟩
              refine And.intro (fun w hw hd => ?_) ?_
              · have d16 := hd 16 (by decide) rfl
                change vs 16 = _ at d16
                have d14 := hd 14 (by decide) rfl
                change vs 14 = _ at d14
                have d1 := hd 1 (by decide) rfl
                change vs 1 = _ at d1
                refine ite_yes (by simp [Region.wanted, yielded, d1]) ?_
                simp only [Gives]
                go_simp
                exact ⟨Below.refl _ _, rfl, fun h => by cases h⟩
              refine And.intro (fun w hw hd => ?_) ?_
              · have d17 := hd 17 (by decide) rfl
                change vs 17 = _ at d17
                have d1 := hd 1 (by decide) rfl
                change vs 1 = _ at d1
                refine ite_yes (by simp [Region.wanted, yielded, d1]) ?_
                have p0 := P0.out w hw
                have p1 := P1.out w hw
                simp only [Gives]
                go_simp
                exact ⟨Below.refl _ _, rfl, fun h => by cases h⟩
              refine And.intro (fun w hw hd => ?_) ?_
              · have d3 := hd 3 (by decide) rfl
                change vs 3 = _ at d3
                have d18 := hd 18 (by decide) rfl
                change vs 18 = _ at d18
                have d1 := hd 1 (by decide) rfl
                change vs 1 = _ at d1
                refine ite_yes (by simp [Region.wanted, yielded, d1]) ?_
                simp only [Gives]
                go_simp
                (try rw [hW3])
                exact ⟨Below.refl _ _, rfl, fun h => by cases h⟩
              refine And.intro (fun w hw hd => ?_) ?_
              · have d1 := hd 1 (by decide) rfl
                change vs 1 = _ at d1
                refine ite_yes (by simp [Region.wanted, yielded, d1]) ?_
                simp only [Gives]
                go_simp
                exact ⟨Below.refl _ _, rfl, fun h => by cases h⟩
              refine And.intro (fun w hw hd => ?_) ?_
              · have d1 := hd 1 (by decide) rfl
                change vs 1 = _ at d1
                refine ite_yes (by simp [Region.wanted, yielded, d1]) ?_
                simp only [Gives]
                go_simp
                exact ⟨Below.refl _ _, rfl, fun h => by cases h⟩
              refine And.intro (fun w hw hd => ?_) ?_
              · have d21 := hd 21 (by decide) rfl
                change vs 21 = _ at d21
                have d1 := hd 1 (by decide) rfl
                change vs 1 = _ at d1
                refine ite_yes (by simp [Region.wanted, yielded, d1]) ?_
                simp only [Gives]
                go_simp
                exact ⟨Below.refl _ _, rfl, fun h => by cases h⟩
              refine And.intro (fun w hw hd => ?_) ?_
              · have d1 := hd 1 (by decide) rfl
                change vs 1 = _ at d1
                refine ite_yes (by simp [Region.wanted, yielded, d1]) ?_
                simp only [Gives]
                go_simp
                exact ⟨Below.refl _ _, rfl, fun h => by cases h⟩
              refine And.intro (fun w hw hd => ?_) ?_
              · have d23 := hd 23 (by decide) rfl
                change vs 23 = _ at d23
                have d1 := hd 1 (by decide) rfl
                change vs 1 = _ at d1
                refine ite_yes (by simp [Region.wanted, yielded, d1]) ?_
                simp only [Gives]
                go_simp
                exact ⟨Below.refl _ _, rfl, fun h => by cases h⟩
              refine And.intro (fun w hw hd => ?_) ?_
              · have d22 := hd 22 (by decide) rfl
                change vs 22 = _ at d22
                have d24 := hd 24 (by decide) rfl
                change vs 24 = _ at d24
                have d1 := hd 1 (by decide) rfl
                change vs 1 = _ at d1
                refine ite_yes (by simp [Region.wanted, yielded, d1]) ?_
                simp only [Gives]
                go_simp
                (try rw [hW4])
                exact ⟨Below.refl _ _, rfl, fun h => by cases h⟩
              refine And.intro (fun w hw hd => ?_) ?_
              · have d1 := hd 1 (by decide) rfl
                change vs 1 = _ at d1
                refine ite_yes (by simp [Region.wanted, yielded, d1]) ?_
                simp only [Gives]
                go_simp
                exact ⟨Below.refl _ _, rfl, fun h => by cases h⟩
              refine And.intro (fun w hw hd => ?_) ?_
              · have d26 := hd 26 (by decide) rfl
                change vs 26 = _ at d26
                have d1 := hd 1 (by decide) rfl
                change vs 1 = _ at d1
                refine ite_yes (by simp [Region.wanted, yielded, d1]) ?_
                simp only [Gives]
                go_simp
                exact ⟨Below.refl _ _, rfl, fun h => by cases h⟩
              refine And.intro (fun w hw hd => ?_) ?_
              · have d1 := hd 1 (by decide) rfl
                change vs 1 = _ at d1
                refine ite_yes (by simp [Region.wanted, yielded, d1]) ?_
                simp only [Gives]
                go_simp
                exact ⟨Below.refl _ _, rfl, fun h => by cases h⟩
              refine And.intro (fun w hw hd => ?_) ?_
              · have d28 := hd 28 (by decide) rfl
                change vs 28 = _ at d28
                have d1 := hd 1 (by decide) rfl
                change vs 1 = _ at d1
                refine ite_yes (by simp [Region.wanted, yielded, d1]) ?_
                simp only [Gives]
                go_simp
                exact ⟨Below.refl _ _, rfl, fun h => by cases h⟩
              refine And.intro (fun w hw hd => ?_) ?_
              · have d27 := hd 27 (by decide) rfl
                change vs 27 = _ at d27
                have d29 := hd 29 (by decide) rfl
                change vs 29 = _ at d29
                have d1 := hd 1 (by decide) rfl
                change vs 1 = _ at d1
                refine ite_yes (by simp [Region.wanted, yielded, d1]) ?_
                simp only [Gives]
                go_simp
                (try rw [hW5])
                exact ⟨Below.refl _ _, rfl, fun h => by cases h⟩
              refine And.intro (fun w hw hd => ?_) ?_
              · have d20 := hd 20 (by decide) rfl
                change vs 20 = _ at d20
                have d1 := hd 1 (by decide) rfl
                change vs 1 = _ at d1
                refine ite_yes (by simp [Region.wanted, yielded, d1]) ?_
                simp only [Gives]
                go_simp
                exact ⟨Below.refl _ _, rfl, fun h => by cases h⟩
              refine And.intro (fun w hw hd => ?_) ?_
              · have d31 := hd 31 (by decide) rfl
                change vs 31 = _ at d31
                have d25 := hd 25 (by decide) rfl
                change vs 25 = _ at d25
                have d1 := hd 1 (by decide) rfl
                change vs 1 = _ at d1
                refine ite_yes (by simp [Region.wanted, yielded, d1]) ?_
                simp only [Gives]
                go_simp
                exact ⟨Below.refl _ _, rfl, fun h => by cases h⟩
              refine And.intro (fun w hw hd => ?_) ?_
              · have d32 := hd 32 (by decide) rfl
                change vs 32 = _ at d32
                have d30 := hd 30 (by decide) rfl
                change vs 30 = _ at d30
                have d1 := hd 1 (by decide) rfl
                change vs 1 = _ at d1
                refine ite_yes (by simp [Region.wanted, yielded, d1]) ?_
                simp only [Gives]
                go_simp
                exact ⟨Below.refl _ _, rfl, fun h => by cases h⟩
              refine And.intro (fun w hw hd => ?_) ?_
              · have d33 := hd 33 (by decide) rfl
                change vs 33 = _ at d33
                have d1 := hd 1 (by decide) rfl
                change vs 1 = _ at d1
                refine ite_yes (by simp [Region.wanted, yielded, d1]) ?_
                have p0 := P0.out w hw
                have p1 := P1.out w hw
                simp only [Gives]
                go_simp
                exact ⟨Below.refl _ _, rfl, fun h => by cases h⟩
              refine And.intro (fun w hw hd => ?_) ?_
              · have d19 := hd 19 (by decide) rfl
                change vs 19 = _ at d19
                have d34 := hd 34 (by decide) rfl
                change vs 34 = _ at d34
                have d1 := hd 1 (by decide) rfl
                change vs 1 = _ at d1
                refine ite_yes (by simp [Region.wanted, yielded, d1]) ?_
                simp only [Gives]
                go_simp
                rw [HEq.out]
                exact ⟨Below.refl _ _, rfl, fun h => by cases h⟩
              refine And.intro (fun w hw hd => ?_) ?_
              · have d1 := hd 1 (by decide) rfl
                change vs 1 = _ at d1
                have d35 := hd 35 (by decide) rfl
                change vs 35 = _ at d35
                refine ite_yes rfl ?_
                simp only [Gives]
                go_simp
                exact ⟨Below.refl _ _, rfl, fun h => by cases h⟩
              exact trivial
            intro vs wt hw hd hne hlo
            have d0 := hd 0 (by decide)
            change vs 0 = _ at d0
            have d1 := hd 1 (by decide)
            change vs 1 = _ at d1
            have d2 := hd 2 (by decide)
            change vs 2 = _ at d2
            have d3 := hd 3 (by decide)
            change vs 3 = _ at d3
            have d4 := hd 4 (by decide)
            change vs 4 = _ at d4
            have d5 := hd 5 (by decide)
            change vs 5 = _ at d5
            have d6 := hd 6 (by decide)
            change vs 6 = _ at d6
            have d7 := hd 7 (by decide)
            change vs 7 = _ at d7
            have d8 := hd 8 (by decide)
            change vs 8 = _ at d8
            have d9 := hd 9 (by decide)
            change vs 9 = _ at d9
            have d10 := hd 10 (by decide)
            change vs 10 = _ at d10
            have d11 := hd 11 (by decide)
            change vs 11 = _ at d11
            have d12 := hd 12 (by decide)
            change vs 12 = _ at d12
            have d13 := hd 13 (by decide)
            change vs 13 = _ at d13
            have d14 := hd 14 (by decide)
            change vs 14 = _ at d14
            have d15 := hd 15 (by decide)
            change vs 15 = _ at d15
            have d16 := hd 16 (by decide)
            change vs 16 = _ at d16
            have d17 := hd 17 (by decide)
            change vs 17 = _ at d17
            have d18 := hd 18 (by decide)
            change vs 18 = _ at d18
            have d19 := hd 19 (by decide)
            change vs 19 = _ at d19
            have d20 := hd 20 (by decide)
            change vs 20 = _ at d20
            have d21 := hd 21 (by decide)
            change vs 21 = _ at d21
            have d22 := hd 22 (by decide)
            change vs 22 = _ at d22
            have d23 := hd 23 (by decide)
            change vs 23 = _ at d23
            have d24 := hd 24 (by decide)
            change vs 24 = _ at d24
            have d25 := hd 25 (by decide)
            change vs 25 = _ at d25
            have d26 := hd 26 (by decide)
            change vs 26 = _ at d26
            have d27 := hd 27 (by decide)
            change vs 27 = _ at d27
            have d28 := hd 28 (by decide)
            change vs 28 = _ at d28
            have d29 := hd 29 (by decide)
            change vs 29 = _ at d29
            have d30 := hd 30 (by decide)
            change vs 30 = _ at d30
            have d31 := hd 31 (by decide)
            change vs 31 = _ at d31
            have d32 := hd 32 (by decide)
            change vs 32 = _ at d32
            have d33 := hd 33 (by decide)
            change vs 33 = _ at d33
            have d34 := hd 34 (by decide)
            change vs 34 = _ at d34
            have d35 := hd 35 (by decide)
            change vs 35 = _ at d35
            have d36 := hd 36 (by decide)
            change vs 36 = _ at d36
            simp only [d0, d1, d2, d4, d5, d6, d7, d8, d10, d11, d12, d13, d15, d16, d17, d18, d20, d21, d22, d23, d24, d26, d27, d28, d29, d31, d32, d33, d34, d36, List.drop_succ_cons, List.drop_nil]
            clear hd hne hlo d0 d1 d2 d4 d5 d6 d7 d8 d10 d11 d12 d13 d15 d16 d17 d18 d20 d21 d22 d23 d24 d26 d27 d28 d29 d31 d32 d33 d34 d36
            have HO5 := Lib.hid (own_below HO4.out hw)
            have HB5 := Lib.hid (HB4.out.kept hw)
            have hB5 := up_later hB4.out hw
            have hzB := hB5.size
            clear hw
            cases bb with
            | false =>
              have HN2 := Lib.hid (show ∀ y ∈ nextTo S R (i, k) (q + 1), bestB S R (i, k) y = false by
                rw [nextTo_yes HAft.out]
                intro z hz
                rcases List.mem_append.1 hz with h | h
                · exact HNo.out z h
                · rw [List.mem_singleton.1 h]
                  exact Hbb.out)
              go_wp2_with fail
              go_roundw
              case rel => exact ⟨q + 1, by omega, by go_num, rfl, rfl, rfl, HN2, HO5, HB5, hB5⟩
              case measure => simp [intOf]; omega
            | true =>
              have hF5 := firstI_step (i := i) (j := k) (k := q) (a := a) (c := c) (n := q + 1) (pre := nextTo S R (i, k) q) (by rw [HSl.out]; exact his) (by rw [HRl.out]; exact hkr) HNe.out (by omega) hq6 HAft.out (nextTo_yes HAft.out).symm HNo.out Hbb.out
              have HF5 := Lib.hid (show fewI S R (a, c) < 120 ∧ (pre ++ [q]) ++ firstI S R (a, c) = firstI S R (0, 0) from ⟨best_lt (x := (q, a, c)) Hbb.out HF2.out, by
                rw [List.append_assoc, List.singleton_append, ← hF5]
                exact HF.out.2⟩)
              have hpl := HPl.out
              obtain ⟨A3, m3, p3, hform⟩ := own_form HO5.out
              subst hform
              clear hF5
              go_wp2_with (at_builtin; refine wpList_append_own_at _ rfl (.tmp 73) (.tmp 75) 25 rfl w.heap.size 3 i0 _ 1 8 und25 hi0 hz0 hz1 hz2 rfl (by decide) _ _ _ rfl (own_below HO5.out (up_alloc up0 _)) ⟨wt.heap.size, 0, none⟩ 1 1 [iv q] rfl rfl (box_newsM (Box.new rfl)) (by simp [Value.oneCell']) (by unfold maxLen; omega) (by omega) (by simp; omega) ?_; intro v' w3 hown' hgrow _ _)
              have hO' := own_below HO5.out (w' := wt.alloc (.cells #[iv q] 3)) (up_alloc up0 _)
              have bg := HB5.out.alloc (.cells #[iv q] 3)
              have HB6 := Lib.hid (bg.grown hgrow (box_not_own bg (by decide) hO'))
              have hB6 := (up_alloc hB5 _).grown hgrow (by simp; omega) (fun b' hb' => (hO'.lt b' hb').1)
              have HO6 : Hid (w3.ownsRow w.heap.size 3 1 v' (pre ++ [q]).length ((pre ++ [q]).map fun k : Nat => iv k)) := Lib.hid (by
                rw [List.length_append, List.map_append]
                exact hown')
              clear hown' hgrow hO' bg
              exact ⟨⟨a, c, pre ++ [q], A2, B2, rfl, rfl, HA3.out, HB3x.out, hx1, hy1, HF5, HO6, HB6, hB6⟩, HSz.out⟩
end Go.Proofs.YtonekgefegfapaaGreat

