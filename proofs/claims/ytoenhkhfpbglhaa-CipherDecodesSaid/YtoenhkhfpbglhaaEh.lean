/-
  WALK of the reference's Decode. Conditions: the book is valid, the list is short.
-/
import Derived.Test.YtoenhkhfpbglhaaEf
namespace Go.Proofs.Ytoenhkhfpbglhaa
open Go.RowKit Go.Shelf
attribute [local go_sem] Oper.semAt_some

/-- No block holds both. -/
def Disj (u v : Value) : Prop := ∀ b, u.ownBlock = some b → v.ownBlock ≠ some b
theorem Disj.symm {u v : Value} (h : Disj u v) : Disj v u := fun b hb hu => h b hu hb
theorem two_append {w1 w2 : World} {v1 v2 v' : Value} {B n1 n2 : Nat} {xs1 xs2 : List Value} (_ : w1.ownsRow B 3 1 v1 n1 xs1) (h2 : w1.ownsRow B 3 1 v2 n2 xs2) (hd : Disj v1 v2) (hg : w1.grownBy w2 v1.ownBlock)
    (hat : v'.ownBlock = v1.ownBlock ∨ v'.ownBlock = some w1.heap.size) : w2.ownsRow B 3 1 v2 n2 xs2 ∧ Disj v' v2 := by
  refine ⟨h2.kept hg ?_, fun b hb hv => ?_⟩
  · cases hv : v2.ownBlock with
    | none => exact .inl rfl
    | some g => exact .inr fun e => hd g e.symm hv
  · rcases hat with e | e
    · rw [e] at hb; exact hd b hb hv
    · rw [e] at hb
      cases hb
      have := (h2.lt _ hv).2
      omega
def rdecE (b : Bk) (day : Nat) (l : List Int) : List Int × List Int × Int :=
  if dispE b day l ≠ 0 then ([], [], dispE b day l) else (plainsI b.n (keyOf b day) 0 ((l.take (l.length - 1)).drop 1), (plainsI b.n (keyOf b day) 0 ((l.take (l.length - 1)).drop 1)).filter (fun x => !nullB b.w x), 0)
theorem plains_at {n : Int} {k : Ky} {l : List Int} {i : Nat} {x : Int} (h : l[i]? = some x) : (plainsI n k 0 l)[i]? = some (plainI n k x i) := by
  rw [plainsI_eq]
  have := mapI_at (plainI n k) 0 l i x h
  rw [Nat.zero_add] at this
  exact this
set_option maxRecDepth 100000 in
set_option maxHeartbeats 2000000 in
theorem RDecode_any (v1 v2 v : Value) (b : Bk) (day : Nat) (l : List Int) (w : World) (hok : BookOK b) (hL : BookAt w v1 v2 b) (hd : day < b.ds.length) (hl : IntsAt w v l) (hl15 : l.length ≤ 15) :
    Calls Try.prog 29 #[.agg #[iv b.n, iv b.w, v1, v2], iv day, v] w fun r w' => ∃ p q, r = .returned (.tuple #[p, q, iv (rdecE b day l).2.2]) ∧ IntsAt w' p (rdecE b day l).1 ∧ IntsAt w' q (rdecE b day l).2.1 ∧ Below w.heap.size w w' := by
  obtain ⟨i0, hi0, hz0, hz1, hz2⟩ := info_parts int_info
  obtain ⟨_, A1, cap1, rfl, _, _⟩ := hL.ks.form
  obtain ⟨_, A2, cap2, rfl, _, _⟩ := hL.ds.form
  obtain ⟨_, A4, cap4, rfl, hcap4, _⟩ := hl.form
  have HL := Lib.hid hL
  have HV := Lib.hid hl
  have HOK := Lib.hid hok
  have HD9 := Lib.hid hd
  have hn0 := hok.n1
  have hn1 := hok.n2
  have hd2 := hok.d2
  clear hL hl
  obtain ⟨la, hla⟩ : ∃ la, (l.length : Int) - 1 = la := ⟨_, rfl⟩
  have hW : IntKind.i64.wrap ((l.length : Int) - 1) = la := by rw [hla]; exact wrapK_in _ 1000 (by omega) (by omega)
  by_cases c1 : l.length < 2
  · have h1 : la < 1 := by omega
    have Hr := Lib.hid (show rdecE b day l = ([], [], 4) by
      have e : dispE b day l = 4 := by unfold dispE; rw [if_pos (.inl c1)]
      unfold rdecE; rw [if_pos (by rw [e]; decide), e])
    rw [Hr.out]
    clear hok
    go_enter Try.func29, Try.ntmps29
    go_wp2_with fail
    go_ret3
    exact ⟨_, _, rfl, RowsAt.nil _, RowsAt.nil _, up_alloc up0 _⟩
  have h1 : ¬ la < 1 := by omega
  by_cases c2 : 12 < l.length
  · have h2 : 11 < la := by omega
    have Hr := Lib.hid (show rdecE b day l = ([], [], 4) by
      have e : dispE b day l = 4 := by unfold dispE; rw [if_pos (.inr (.inl c2))]
      unfold rdecE; rw [if_pos (by rw [e]; decide), e])
    rw [Hr.out]
    clear hok
    go_enter Try.func29, Try.ntmps29
    go_wp2_with fail
    go_ret3
    exact ⟨_, _, rfl, RowsAt.nil _, RowsAt.nil _, up_alloc up0 _⟩
  have h2 : ¬ 11 < la := by omega
  cases c3 : l.all (fun x => belowB x b.n) with
  | false =>
    have HPl := Lib.hid c3
    have Hr := Lib.hid (show rdecE b day l = ([], [], 4) by
      have e : dispE b day l = 4 := by unfold dispE; rw [if_pos (.inr (.inr c3))]
      unfold rdecE; rw [if_pos (by rw [e]; decide), e])
    rw [Hr.out]
    clear hok c3
    go_enter Try.func29, Try.ntmps29
    go_wp2_with fail
    refine (Plain_any b.n b.w _ _ _ l _ hn0 hn1 (HV.out.kept (up_alloc up0 _))).mono ?_
    rintro e w1 ⟨rfl, hb⟩
    rw [HPl.out]
    have HB := Lib.hid (up_later (up_alloc (up0 (w := w)) (.cells #[iv b.n, iv b.w, .slice A1 b.ks.length cap1, .slice A2 b.ds.length cap2] 25)) hb)
    have B1 := Lib.hid ((Box.new (w := w) (t := 25) (cs := #[iv b.n, iv b.w, .slice A1 b.ks.length cap1, .slice A2 b.ds.length cap2]) rfl).kept hb)
    clear hb
    have BB := B1.out
    have cB := fun i => BB.cell i
    have fB := fun i => BB.free i
    have lB := BB.lt
    have mB := Nat.lt_succ_of_lt lB
    go_wp2_with fail
    clear cB fB lB mB BB
    go_ret3
    exact ⟨_, _, rfl, RowsAt.nil _, RowsAt.nil _, HB.out⟩
  | true =>
  have HPl := Lib.hid c3
  have hnot : ¬ (l.length < 2 ∨ 12 < l.length ∨ l.all (fun x => belowB x b.n) = false) := by rw [c3]; simp; omega
  obtain ⟨x0, hx0⟩ : ∃ x0, l[0]? = some x0 := ⟨_, List.getElem?_eq_getElem (by omega)⟩
  obtain ⟨bl, ol, rfl, _, _⟩ := HV.out.at rfl hx0
  have HX0 := Lib.hid hx0
  have hh : l.headD 0 = x0 := by
    cases l with
    | nil => simp at hx0
    | cons a r => simpa using hx0
  obtain ⟨ind, hind⟩ : ∃ ind, indI b day = ind := ⟨_, rfl⟩
  have Hind := Lib.hid hind
  obtain ⟨n, hn⟩ : ∃ n : Nat, la = n := ⟨la.toNat, by omega⟩
  subst hn
  have hnl : l.length = n + 1 := by omega
  by_cases c4 : x0 = ind
  case neg =>
    have e4 : (x0 == ind) = false := by rw [beq_eq_false_iff_ne]; exact c4
    have Hr := Lib.hid (show rdecE b day l = ([], [], 8) by
      have e : dispE b day l = 8 := by unfold dispE; rw [if_neg hnot, if_pos (by rw [hh, hind]; exact c4)]
      unfold rdecE; rw [if_pos (by rw [e]; decide), e])
    rw [Hr.out]
    have l0 : 0 < l.length := by omega
    clear hok c3 hx0 hh hind hnot hnl hla c4
    go_enter Try.func29, Try.ntmps29
    go_wp2_with fail
    refine (Plain_any b.n b.w _ _ _ l _ hn0 hn1 (HV.out.kept (up_alloc up0 _))).mono ?_
    rintro e w1 ⟨rfl, hb⟩
    rw [HPl.out]
    have HB := Lib.hid (up_later (up_alloc (up0 (w := w)) (.cells #[iv b.n, iv b.w, .slice A1 b.ks.length cap1, .slice A2 b.ds.length cap2] 25)) hb)
    have B1 := Lib.hid ((Box.new (w := w) (t := 25) (cs := #[iv b.n, iv b.w, .slice A1 b.ks.length cap1, .slice A2 b.ds.length cap2]) rfl).kept hb)
    clear hb
    have BB := B1.out
    have cB := fun i => BB.cell i
    have fB := fun i => BB.free i
    have lB := BB.lt
    have mB := Nat.lt_succ_of_lt lB
    go_wp2_with fail
    clear cB fB lB mB BB
    have N := B1.out
    apply wp_region_by 7 [(Fact.eq _), (Fact.eq _), (Fact.eq _), (Fact.eq _), (Fact.eq _), (Fact.eq (iv ind)), (Fact.eq _)]
    case hm => kernel_rfl
    case hB => kernel_rfl
    case hA => (intro vs; simp only [List.take_succ_cons, List.take_zero, putAll, if_true, Act.put, List.setIfInBounds_toArray, List.set_cons_zero, List.set_cons_succ]; exact rfl)
    case hstep =>
      intro vs
      refine And.intro (fun w hw hd => ?_) ?_
      · refine ite_yes rfl ?_
        simp only [Gives]
        go_simp
        exact ⟨Below.refl _ _, rfl, fun h => by cases h⟩
      refine And.intro (fun w hw hd => ?_) ?_
      · have d0 := hd 0 (by decide) rfl
        change vs 0 = _ at d0
        refine ite_yes rfl ?_
        simp only [Gives]
        go_simp
        exact ⟨Below.refl _ _, rfl, fun h => by cases h⟩
      refine And.intro (fun w hw hd => ?_) ?_
      · have d1 := hd 1 (by decide) rfl
        change vs 1 = _ at d1
        refine ite_yes rfl ?_
        have c_N := fun i => (N.kept hw).cell i
        have q0 : w.cell? ⟨bl, ol, none⟩ = some (.int .i64 x0) := by simpa using (HV.out.kept (up_later HB.out hw)).cellAt HX0.out (j := 0) rfl
        simp only [Gives]
        go_simp
        exact ⟨Below.refl _ _, rfl, fun h => by cases h⟩
      refine And.intro (fun w hw hd => ?_) ?_
      · refine ite_yes rfl ?_
        have c_N := fun i => (N.kept hw).cell i
        simp only [Gives]
        go_simp
        exact ⟨Below.refl _ _, rfl, fun h => by cases h⟩
      refine And.intro (fun w hw hd => ?_) ?_
      · refine ite_yes rfl ?_
        simp only [Gives]
        go_simp
        exact ⟨Below.refl _ _, rfl, fun h => by cases h⟩
      refine And.intro (fun w hw hd => ?_) ?_
      · have d3 := hd 3 (by decide) rfl
        change vs 3 = _ at d3
        have d4 := hd 4 (by decide) rfl
        change vs 4 = _ at d4
        refine ite_yes rfl ?_
        simp only [Gives]
        go_simp
        refine (RIndicator_any _ _ b day w HOK.out (HL.out.kept (up_later HB.out hw)) HD9.out).mono ?_
        rintro e w7 ⟨rfl, hb⟩
        rw [Hind.out]
        exact ⟨_, rfl, hb, rfl, fun h => by cases h⟩
      refine And.intro (fun w hw hd => ?_) ?_
      · have d2 := hd 2 (by decide) rfl
        change vs 2 = _ at d2
        have d5 := hd 5 (by decide) rfl
        change vs 5 = _ at d5
        refine ite_yes rfl ?_
        simp only [Gives]
        go_simp
        exact ⟨Below.refl _ _, rfl, fun h => by cases h⟩
      exact trivial
    intro vs wt hw hd hne hlo
    have d0 := hd 0 (by decide)
    change vs 0 = _ at d0
    have d1 := hd 1 (by decide)
    change vs 1 = _ at d1
    have d2 := hd 2 (by decide)
    change vs 2 = _ at d2
    have d3 := hd 3 (by decide)
    change vs 3 = _ at d3
    have d4 := hd 4 (by decide)
    change vs 4 = _ at d4
    have d5 := hd 5 (by decide)
    change vs 5 = _ at d5
    have d6 := hd 6 (by decide)
    change vs 6 = _ at d6
    simp only [d0, d1, d2, d3, d4, d6, List.drop_succ_cons, List.drop_nil]
    have N := N.kept hw
    have c_N := fun i => N.cell i
    have f_N := fun i => N.free i
    clear hd hne hlo d0 d1 d2 d3 d4 d6
    have HB := Lib.hid (up_later HB.out hw)
    have B1 := Lib.hid N
    clear c_N f_N N hw
    simp only [Nat.zero_add, Nat.reduceAdd, d5]
    go_wp2_with fail
    go_ret3
    exact ⟨_, _, rfl, RowsAt.nil _, RowsAt.nil _, HB.out⟩
  have e4 : (x0 == ind) = true := by rw [beq_iff_eq]; exact c4
  obtain ⟨xl, hxl⟩ : ∃ xl, l[n]? = some xl := ⟨_, List.getElem?_eq_getElem (by omega)⟩
  have HXL := Lib.hid hxl
  have hlast : l.getLastD 0 = xl := by
    rw [List.getLastD_eq_getLast?, List.getLast?_eq_getElem?, show l.length - 1 = n by omega, hxl]
    rfl
  have hdrop : l.dropLast = l.take n := by rw [List.dropLast_eq_take, show l.length - 1 = n by omega]
  obtain ⟨ch, hch⟩ : ∃ ch, checkI b.n (l.take n) = ch := ⟨_, rfl⟩
  have Hch := Lib.hid hch
  have hall := List.all_eq_true.1 c3
  have HIN := Lib.hid (show ∀ x ∈ l.take n, 0 ≤ x ∧ x ≤ 1000 from fun x hx => by
    have := belowB_iff.1 (hall x (List.mem_of_mem_take hx))
    omega)
  obtain ⟨V, hV1, hV2⟩ := rows_upto (P := Try.prog) (cells := ic) (sz := 1) (A := some ⟨bl, ol, none⟩) (cap := cap4) (l := l) (r := n) Try.underlying23 hi0 (by omega) hcap4 .i64
  have HV1 := Lib.hid hV1
  have HV2 := Lib.hid hV2
  have l0 : 0 < l.length := by omega
  have n0 : (0 : Int) ≤ (n : Int) := by omega
  have n1 : (n : Int) < (l.length : Int) := by omega
  by_cases c5 : xl = ch
  case neg =>
    have e5 : (xl == ch) = false := by rw [beq_eq_false_iff_ne]; exact c5
    have Hr := Lib.hid (show rdecE b day l = ([], [], 11) by
      have e : dispE b day l = 11 := by unfold dispE; rw [if_neg hnot, if_neg (by rw [hh, hind]; simpa using c4), if_pos (by rw [hlast, hdrop, hch]; exact c5)]
      unfold rdecE; rw [if_pos (by rw [e]; decide), e])
    rw [Hr.out]
    clear hok c3 hx0 hh hind hnot hnl hla c4 c5 hxl hlast hdrop hch hall hV1 hV2 hd
    go_enter Try.func29, Try.ntmps29
    go_wp2_with fail
    refine (Plain_any b.n b.w _ _ _ l _ hn0 hn1 (HV.out.kept (up_alloc up0 _))).mono ?_
    rintro e w1 ⟨rfl, hb⟩
    rw [HPl.out]
    have HB := Lib.hid (up_later (up_alloc (up0 (w := w)) (.cells #[iv b.n, iv b.w, .slice A1 b.ks.length cap1, .slice A2 b.ds.length cap2] 25)) hb)
    have B1 := Lib.hid ((Box.new (w := w) (t := 25) (cs := #[iv b.n, iv b.w, .slice A1 b.ks.length cap1, .slice A2 b.ds.length cap2]) rfl).kept hb)
    clear hb
    have BB := B1.out
    have cB := fun i => BB.cell i
    have fB := fun i => BB.free i
    have lB := BB.lt
    have mB := Nat.lt_succ_of_lt lB
    go_wp2_with fail
    clear cB fB lB mB BB
    have N := B1.out
    apply wp_region_by 7 [(Fact.eq _), (Fact.eq _), (Fact.eq _), (Fact.eq _), (Fact.eq _), (Fact.eq (iv ind)), (Fact.eq _)]
    case hm => kernel_rfl
    case hB => kernel_rfl
    case hA => (intro vs; simp only [List.take_succ_cons, List.take_zero, putAll, if_true, Act.put, List.setIfInBounds_toArray, List.set_cons_zero, List.set_cons_succ]; exact rfl)
    case hstep =>
      intro vs
      refine And.intro (fun w hw hd => ?_) ?_
      · refine ite_yes rfl ?_
        simp only [Gives]
        go_simp
        exact ⟨Below.refl _ _, rfl, fun h => by cases h⟩
      refine And.intro (fun w hw hd => ?_) ?_
      · have d0 := hd 0 (by decide) rfl
        change vs 0 = _ at d0
        refine ite_yes rfl ?_
        simp only [Gives]
        go_simp
        exact ⟨Below.refl _ _, rfl, fun h => by cases h⟩
      refine And.intro (fun w hw hd => ?_) ?_
      · have d1 := hd 1 (by decide) rfl
        change vs 1 = _ at d1
        refine ite_yes rfl ?_
        have c_N := fun i => (N.kept hw).cell i
        have q0 : w.cell? ⟨bl, ol, none⟩ = some (.int .i64 x0) := by simpa using (HV.out.kept (up_later HB.out hw)).cellAt HX0.out (j := 0) rfl
        simp only [Gives]
        go_simp
        exact ⟨Below.refl _ _, rfl, fun h => by cases h⟩
      refine And.intro (fun w hw hd => ?_) ?_
      · refine ite_yes rfl ?_
        have c_N := fun i => (N.kept hw).cell i
        simp only [Gives]
        go_simp
        exact ⟨Below.refl _ _, rfl, fun h => by cases h⟩
      refine And.intro (fun w hw hd => ?_) ?_
      · refine ite_yes rfl ?_
        simp only [Gives]
        go_simp
        exact ⟨Below.refl _ _, rfl, fun h => by cases h⟩
      refine And.intro (fun w hw hd => ?_) ?_
      · have d3 := hd 3 (by decide) rfl
        change vs 3 = _ at d3
        have d4 := hd 4 (by decide) rfl
        change vs 4 = _ at d4
        refine ite_yes rfl ?_
        simp only [Gives]
        go_simp
        refine (RIndicator_any _ _ b day w HOK.out (HL.out.kept (up_later HB.out hw)) HD9.out).mono ?_
        rintro e w7 ⟨rfl, hb⟩
        rw [Hind.out]
        exact ⟨_, rfl, hb, rfl, fun h => by cases h⟩
      refine And.intro (fun w hw hd => ?_) ?_
      · have d2 := hd 2 (by decide) rfl
        change vs 2 = _ at d2
        have d5 := hd 5 (by decide) rfl
        change vs 5 = _ at d5
        refine ite_yes rfl ?_
        simp only [Gives]
        go_simp
        exact ⟨Below.refl _ _, rfl, fun h => by cases h⟩
      exact trivial
    intro vs wt hw hd hne hlo
    have d0 := hd 0 (by decide)
    change vs 0 = _ at d0
    have d1 := hd 1 (by decide)
    change vs 1 = _ at d1
    have d2 := hd 2 (by decide)
    change vs 2 = _ at d2
    have d3 := hd 3 (by decide)
    change vs 3 = _ at d3
    have d4 := hd 4 (by decide)
    change vs 4 = _ at d4
    have d5 := hd 5 (by decide)
    change vs 5 = _ at d5
    have d6 := hd 6 (by decide)
    change vs 6 = _ at d6
    simp only [d0, d1, d2, d3, d4, d6, List.drop_succ_cons, List.drop_nil]
    have N := N.kept hw
    have c_N := fun i => N.cell i
    have f_N := fun i => N.free i
    clear hd hne hlo d0 d1 d2 d3 d4 d6
    have HB := Lib.hid (up_later HB.out hw)
    have B1 := Lib.hid N
    clear c_N f_N N hw
    simp only [Nat.zero_add, Nat.reduceAdd, d5]
    go_wp2_with fail
    have N := B1.out
    apply wp_region_by 10 [(Fact.eq _), (Fact.eq _), (Fact.eq _), (Fact.eq _), (Fact.eq _), (Fact.eq _), (Fact.eq _), (Fact.eq V), (Fact.eq (iv ch)), (Fact.eq _)]
    case hm => kernel_rfl
    case hB => kernel_rfl
    case hA => (intro vs; simp only [List.take_succ_cons, List.take_zero, putAll, if_true, Act.put, List.setIfInBounds_toArray, List.set_cons_zero, List.set_cons_succ]; exact rfl)
    case hstep =>
      intro vs
      refine And.intro (fun w hw hd => ?_) ?_
      · refine ite_yes rfl ?_
        simp only [Gives]
        go_simp
        exact ⟨Below.refl _ _, rfl, fun h => by cases h⟩
      refine And.intro (fun w hw hd => ?_) ?_
      · refine ite_yes rfl ?_
        simp only [Gives]
        go_simp
        exact ⟨Below.refl _ _, rfl, fun h => by cases h⟩
      refine And.intro (fun w hw hd => ?_) ?_
      · have d0 := hd 0 (by decide) rfl
        change vs 0 = _ at d0
        have d1 := hd 1 (by decide) rfl
        change vs 1 = _ at d1
        refine ite_yes rfl ?_
        simp only [Gives]
        go_simp
        exact ⟨Below.refl _ _, rfl, fun h => by cases h⟩
      refine And.intro (fun w hw hd => ?_) ?_
      · have d2 := hd 2 (by decide) rfl
        change vs 2 = _ at d2
        refine ite_yes rfl ?_
        have c_N := fun i => (N.kept hw).cell i
        have q0 : w.cell? ⟨bl, ol + n, none⟩ = some (.int .i64 xl) := by simpa using (HV.out.kept (up_later HB.out hw)).cellAt HXL.out (j := 0) rfl
        simp only [Gives]
        go_simp
        exact ⟨Below.refl _ _, rfl, fun h => by cases h⟩
      refine And.intro (fun w hw hd => ?_) ?_
      · refine ite_yes rfl ?_
        have c_N := fun i => (N.kept hw).cell i
        simp only [Gives]
        go_simp
        exact ⟨Below.refl _ _, rfl, fun h => by cases h⟩
      refine And.intro (fun w hw hd => ?_) ?_
      · refine ite_yes rfl ?_
        simp only [Gives]
        go_simp
        exact ⟨Below.refl _ _, rfl, fun h => by cases h⟩
      refine And.intro (fun w hw hd => ?_) ?_
      · refine ite_yes rfl ?_
        simp only [Gives]
        go_simp
        exact ⟨Below.refl _ _, rfl, fun h => by cases h⟩
      refine And.intro (fun w hw hd => ?_) ?_
      · have d5 := hd 5 (by decide) rfl
        change vs 5 = _ at d5
        have d6 := hd 6 (by decide) rfl
        change vs 6 = _ at d6
        refine ite_yes rfl ?_
        simp only [Gives]
        refine gives_slice 23 (.tmp 41) none (some (.tmp 42)) rfl (.slice (some ⟨bl, ol, none⟩) l.length cap4) V none (some (.int .i64 (n : Int))) ?_ rfl ?_ (HV1.out _) ⟨Below.refl _ _, rfl, fun h => by cases h⟩
        all_goals (go_simp)
      refine And.intro (fun w hw hd => ?_) ?_
      · have d4 := hd 4 (by decide) rfl
        change vs 4 = _ at d4
        have d7 := hd 7 (by decide) rfl
        change vs 7 = _ at d7
        refine ite_yes rfl ?_
        simp only [Gives]
        go_simp
        refine (RCheck_any b.n b.w _ _ V (l.take n) w (by omega) (HV2.out _ (HV.out.kept (up_later HB.out hw))) HIN.out (by rw [List.length_take]; omega)).mono ?_
        rintro e w7 ⟨rfl, hb⟩
        rw [Hch.out]
        exact ⟨_, rfl, hb, rfl, fun h => by cases h⟩
      refine And.intro (fun w hw hd => ?_) ?_
      · have d3 := hd 3 (by decide) rfl
        change vs 3 = _ at d3
        have d8 := hd 8 (by decide) rfl
        change vs 8 = _ at d8
        refine ite_yes rfl ?_
        simp only [Gives]
        go_simp
        exact ⟨Below.refl _ _, rfl, fun h => by cases h⟩
      exact trivial
    intro vs wt hw hd hne hlo
    have d0 := hd 0 (by decide)
    change vs 0 = _ at d0
    have d1 := hd 1 (by decide)
    change vs 1 = _ at d1
    have d2 := hd 2 (by decide)
    change vs 2 = _ at d2
    have d3 := hd 3 (by decide)
    change vs 3 = _ at d3
    have d4 := hd 4 (by decide)
    change vs 4 = _ at d4
    have d5 := hd 5 (by decide)
    change vs 5 = _ at d5
    have d6 := hd 6 (by decide)
    change vs 6 = _ at d6
    have d7 := hd 7 (by decide)
    change vs 7 = _ at d7
    have d8 := hd 8 (by decide)
    change vs 8 = _ at d8
    have d9 := hd 9 (by decide)
    change vs 9 = _ at d9
    simp only [d0, d1, d2, d3, d4, d5, d6, d9, List.drop_succ_cons, List.drop_nil]
    have N := N.kept hw
    have c_N := fun i => N.cell i
    have f_N := fun i => N.free i
    clear hd hne hlo d0 d1 d2 d3 d4 d5 d6 d9
    have HB := Lib.hid (up_later HB.out hw)
    have B1 := Lib.hid N
    clear c_N f_N N hw
    simp only [Nat.zero_add, Nat.reduceAdd, d7, d8]
    go_wp2_with fail
    go_ret3
    exact ⟨_, _, rfl, RowsAt.nil _, RowsAt.nil _, HB.out⟩
  have e5 : (xl == ch) = true := by rw [beq_iff_eq]; exact c5
  obtain ⟨C, hC⟩ : ∃ C, (l.take (l.length - 1)).drop 1 = C := ⟨_, rfl⟩
  have hCl : C.length = n - 1 := by rw [← hC, List.length_drop, List.length_take]; omega
  obtain ⟨P, hP⟩ : ∃ P, plainsI b.n (keyOf b day) 0 C = P := ⟨_, rfl⟩
  have hPl : P.length = n - 1 := by rw [← hP, plainsI_len, hCl]
  obtain ⟨F, hF⟩ : ∃ F : Int → Bool, F = fun x => !nullB b.w x := ⟨_, rfl⟩
  obtain ⟨j, ky, hj, hjl, hky, hke, hsm, hun⟩ := key_day hok hd
  have Hr := Lib.hid (show rdecE b day l = (P, P.filter F, 0) by
    have e : dispE b day l = 0 := by unfold dispE; rw [if_neg hnot, if_neg (by rw [hh, hind]; simpa using c4), if_neg (by rw [hlast, hdrop, hch]; simpa using c5)]
    unfold rdecE; rw [if_neg (by rw [e]; decide), hC, hP, hF])
  have HPat := Lib.hid (show ∀ (m : Nat) (x : Int), 1 ≤ m → m < n → l[m]? = some x → P[m - 1]? = some (plainI b.n ky x ((m - 1 : Nat) : Int)) from fun m x h1 h2 h => by
    rw [← hP, ← hke]
    refine plains_at ?_
    rw [← hC, List.getElem?_drop, show 1 + (m - 1) = m by omega, List.getElem?_take, if_pos (by omega)]
    exact h)
  obtain ⟨bd, od, eA2, _, _⟩ := HL.out.ds.at rfl hj
  obtain ⟨bk, okk, eA1, _, _⟩ := HL.out.ks.at rfl hky
  have HA1 := Lib.hid eA1
  have HA2 := Lib.hid eA2
  clear eA1 eA2
  have HJ := Lib.hid hj
  have HKy := Lib.hid hky
  have Hsm := Lib.hid hsm
  have Hun := Lib.hid hun
  have HFF := Lib.hid hF
  have HPl2 := Lib.hid hPl
  have Hall := Lib.hid hall
  rw [Hr.out]
  have j0 : (0 : Int) ≤ (j : Int) := by omega
  have dd0 : (0 : Int) ≤ (day : Int) := by omega
  have dd1 : (day : Int) < (b.ds.length : Int) := by omega
  have j1 : (j : Int) < (b.ks.length : Int) := by omega
  have nn1 : 1 ≤ n := by omega
  have nn2 : n ≤ 11 := by omega
  have Hnl := Lib.hid hnl
  clear hok c3 hx0 hh hind hnot hnl hla c4 c5 hxl hlast hdrop hch hall hV1 hV2 hd hC hCl hP hPl hF hj hky hke hsm hun
  go_enter Try.func29, Try.ntmps29
  go_wp2_with fail
  refine (Plain_any b.n b.w _ _ _ l _ hn0 hn1 (HV.out.kept (up_alloc up0 _))).mono ?_
  rintro e w1 ⟨rfl, hb⟩
  rw [HPl.out]
  have HB := Lib.hid (up_later (up_alloc (up0 (w := w)) (.cells #[iv b.n, iv b.w, .slice A1 b.ks.length cap1, .slice A2 b.ds.length cap2] 25)) hb)
  have B1 := Lib.hid ((Box.new (w := w) (t := 25) (cs := #[iv b.n, iv b.w, .slice A1 b.ks.length cap1, .slice A2 b.ds.length cap2]) rfl).kept hb)
  clear hb
  have BB := B1.out
  have cB := fun i => BB.cell i
  have fB := fun i => BB.free i
  have lB := BB.lt
  have mB := Nat.lt_succ_of_lt lB
  go_wp2_with fail
  clear cB fB lB mB BB
  have N := B1.out
  apply wp_region_by 7 [(Fact.eq _), (Fact.eq _), (Fact.eq _), (Fact.eq _), (Fact.eq _), (Fact.eq (iv ind)), (Fact.eq _)]
  case hm => kernel_rfl
  case hB => kernel_rfl
  case hA => (intro vs; simp only [List.take_succ_cons, List.take_zero, putAll, if_true, Act.put, List.setIfInBounds_toArray, List.set_cons_zero, List.set_cons_succ]; exact rfl)
  case hstep =>
    intro vs
    refine And.intro (fun w hw hd => ?_) ?_
    · refine ite_yes rfl ?_
      simp only [Gives]
      go_simp
      exact ⟨Below.refl _ _, rfl, fun h => by cases h⟩
    refine And.intro (fun w hw hd => ?_) ?_
    · have d0 := hd 0 (by decide) rfl
      change vs 0 = _ at d0
      refine ite_yes rfl ?_
      simp only [Gives]
      go_simp
      exact ⟨Below.refl _ _, rfl, fun h => by cases h⟩
    refine And.intro (fun w hw hd => ?_) ?_
    · have d1 := hd 1 (by decide) rfl
      change vs 1 = _ at d1
      refine ite_yes rfl ?_
      have c_N := fun i => (N.kept hw).cell i
      have q0 : w.cell? ⟨bl, ol, none⟩ = some (.int .i64 x0) := by simpa using (HV.out.kept (up_later HB.out hw)).cellAt HX0.out (j := 0) rfl
      simp only [Gives]
      go_simp
      exact ⟨Below.refl _ _, rfl, fun h => by cases h⟩
    refine And.intro (fun w hw hd => ?_) ?_
    · refine ite_yes rfl ?_
      have c_N := fun i => (N.kept hw).cell i
      simp only [Gives]
      go_simp
      exact ⟨Below.refl _ _, rfl, fun h => by cases h⟩
    refine And.intro (fun w hw hd => ?_) ?_
    · refine ite_yes rfl ?_
      simp only [Gives]
      go_simp
      exact ⟨Below.refl _ _, rfl, fun h => by cases h⟩
    refine And.intro (fun w hw hd => ?_) ?_
    · have d3 := hd 3 (by decide) rfl
      change vs 3 = _ at d3
      have d4 := hd 4 (by decide) rfl
      change vs 4 = _ at d4
      refine ite_yes rfl ?_
      simp only [Gives]
      go_simp
      refine (RIndicator_any _ _ b day w HOK.out (HL.out.kept (up_later HB.out hw)) HD9.out).mono ?_
      rintro e w7 ⟨rfl, hb⟩
      rw [Hind.out]
      exact ⟨_, rfl, hb, rfl, fun h => by cases h⟩
    refine And.intro (fun w hw hd => ?_) ?_
    · have d2 := hd 2 (by decide) rfl
      change vs 2 = _ at d2
      have d5 := hd 5 (by decide) rfl
      change vs 5 = _ at d5
      refine ite_yes rfl ?_
      simp only [Gives]
      go_simp
      exact ⟨Below.refl _ _, rfl, fun h => by cases h⟩
    exact trivial
  intro vs wt hw hd hne hlo
  have d0 := hd 0 (by decide)
  change vs 0 = _ at d0
  have d1 := hd 1 (by decide)
  change vs 1 = _ at d1
  have d2 := hd 2 (by decide)
  change vs 2 = _ at d2
  have d3 := hd 3 (by decide)
  change vs 3 = _ at d3
  have d4 := hd 4 (by decide)
  change vs 4 = _ at d4
  have d5 := hd 5 (by decide)
  change vs 5 = _ at d5
  have d6 := hd 6 (by decide)
  change vs 6 = _ at d6
  simp only [d0, d1, d2, d3, d4, d6, List.drop_succ_cons, List.drop_nil]
  have N := N.kept hw
  have c_N := fun i => N.cell i
  have f_N := fun i => N.free i
  clear hd hne hlo d0 d1 d2 d3 d4 d6
  have HB := Lib.hid (up_later HB.out hw)
  have B1 := Lib.hid N
  clear c_N f_N N hw
  simp only [Nat.zero_add, Nat.reduceAdd, d5]
  go_wp2_with fail
  have N := B1.out
  apply wp_region_by 10 [(Fact.eq _), (Fact.eq _), (Fact.eq _), (Fact.eq _), (Fact.eq _), (Fact.eq _), (Fact.eq _), (Fact.eq V), (Fact.eq (iv ch)), (Fact.eq _)]
  case hm => kernel_rfl
  case hB => kernel_rfl
  case hA => (intro vs; simp only [List.take_succ_cons, List.take_zero, putAll, if_true, Act.put, List.setIfInBounds_toArray, List.set_cons_zero, List.set_cons_succ]; exact rfl)
  case hstep =>
    intro vs
    refine And.intro (fun w hw hd => ?_) ?_
    · refine ite_yes rfl ?_
      simp only [Gives]
      go_simp
      exact ⟨Below.refl _ _, rfl, fun h => by cases h⟩
    refine And.intro (fun w hw hd => ?_) ?_
    · refine ite_yes rfl ?_
      simp only [Gives]
      go_simp
      exact ⟨Below.refl _ _, rfl, fun h => by cases h⟩
    refine And.intro (fun w hw hd => ?_) ?_
    · have d0 := hd 0 (by decide) rfl
      change vs 0 = _ at d0
      have d1 := hd 1 (by decide) rfl
      change vs 1 = _ at d1
      refine ite_yes rfl ?_
      simp only [Gives]
      go_simp
      exact ⟨Below.refl _ _, rfl, fun h => by cases h⟩
    refine And.intro (fun w hw hd => ?_) ?_
    · have d2 := hd 2 (by decide) rfl
      change vs 2 = _ at d2
      refine ite_yes rfl ?_
      have c_N := fun i => (N.kept hw).cell i
      have q0 : w.cell? ⟨bl, ol + n, none⟩ = some (.int .i64 xl) := by simpa using (HV.out.kept (up_later HB.out hw)).cellAt HXL.out (j := 0) rfl
      simp only [Gives]
      go_simp
      exact ⟨Below.refl _ _, rfl, fun h => by cases h⟩
    refine And.intro (fun w hw hd => ?_) ?_
    · refine ite_yes rfl ?_
      have c_N := fun i => (N.kept hw).cell i
      simp only [Gives]
      go_simp
      exact ⟨Below.refl _ _, rfl, fun h => by cases h⟩
    refine And.intro (fun w hw hd => ?_) ?_
    · refine ite_yes rfl ?_
      simp only [Gives]
      go_simp
      exact ⟨Below.refl _ _, rfl, fun h => by cases h⟩
    refine And.intro (fun w hw hd => ?_) ?_
    · refine ite_yes rfl ?_
      simp only [Gives]
      go_simp
      exact ⟨Below.refl _ _, rfl, fun h => by cases h⟩
    refine And.intro (fun w hw hd => ?_) ?_
    · have d5 := hd 5 (by decide) rfl
      change vs 5 = _ at d5
      have d6 := hd 6 (by decide) rfl
      change vs 6 = _ at d6
      refine ite_yes rfl ?_
      simp only [Gives]
      refine gives_slice 23 (.tmp 41) none (some (.tmp 42)) rfl (.slice (some ⟨bl, ol, none⟩) l.length cap4) V none (some (.int .i64 (n : Int))) ?_ rfl ?_ (HV1.out _) ⟨Below.refl _ _, rfl, fun h => by cases h⟩
      all_goals (go_simp)
    refine And.intro (fun w hw hd => ?_) ?_
    · have d4 := hd 4 (by decide) rfl
      change vs 4 = _ at d4
      have d7 := hd 7 (by decide) rfl
      change vs 7 = _ at d7
      refine ite_yes rfl ?_
      simp only [Gives]
      go_simp
      refine (RCheck_any b.n b.w _ _ V (l.take n) w (by omega) (HV2.out _ (HV.out.kept (up_later HB.out hw))) HIN.out (by rw [List.length_take]; omega)).mono ?_
      rintro e w7 ⟨rfl, hb⟩
      rw [Hch.out]
      exact ⟨_, rfl, hb, rfl, fun h => by cases h⟩
    refine And.intro (fun w hw hd => ?_) ?_
    · have d3 := hd 3 (by decide) rfl
      change vs 3 = _ at d3
      have d8 := hd 8 (by decide) rfl
      change vs 8 = _ at d8
      refine ite_yes rfl ?_
      simp only [Gives]
      go_simp
      exact ⟨Below.refl _ _, rfl, fun h => by cases h⟩
    exact trivial
  intro vs wt hw hd hne hlo
  have d0 := hd 0 (by decide)
  change vs 0 = _ at d0
  have d1 := hd 1 (by decide)
  change vs 1 = _ at d1
  have d2 := hd 2 (by decide)
  change vs 2 = _ at d2
  have d3 := hd 3 (by decide)
  change vs 3 = _ at d3
  have d4 := hd 4 (by decide)
  change vs 4 = _ at d4
  have d5 := hd 5 (by decide)
  change vs 5 = _ at d5
  have d6 := hd 6 (by decide)
  change vs 6 = _ at d6
  have d7 := hd 7 (by decide)
  change vs 7 = _ at d7
  have d8 := hd 8 (by decide)
  change vs 8 = _ at d8
  have d9 := hd 9 (by decide)
  change vs 9 = _ at d9
  simp only [d0, d1, d2, d3, d4, d5, d6, d9, List.drop_succ_cons, List.drop_nil]
  have N := N.kept hw
  have c_N := fun i => N.cell i
  have f_N := fun i => N.free i
  clear hd hne hlo d0 d1 d2 d3 d4 d5 d6 d9
  have HB := Lib.hid (up_later HB.out hw)
  have B1 := Lib.hid N
  clear c_N f_N N hw
  simp only [Nat.zero_add, Nat.reduceAdd, d7, d8]
  clear d5 d7 d8
  have eA1 := HA1.out
  have eA2 := HA2.out
  clear HA1 HA2
  subst eA1
  subst eA2
  go_wp2_with fail
  have f4 : (x0 != ind) = false := by simp [bne, e4]
  have f5 : (xl != ch) = false := by simp [bne, e5]
  simp only [f4, f5]
  clear e4 e5 f4 f5
  go_loopw [10, 11, 12] (fun u z i wr => ∃ m : Nat, 1 ≤ m ∧ m ≤ n ∧ i = .int .i64 m ∧ Hid (wr.ownsRow w.heap.size 3 1 u (m - 1) ((P.take (m - 1)).map iv)) ∧ Hid (wr.ownsRow w.heap.size 3 1 z ((P.take (m - 1)).filter F).length (((P.take (m - 1)).filter F).map iv)) ∧ Hid (Disj u z) ∧ Hid (Box wr w.heap.size 25 #[iv b.n, iv b.w, .slice (some ⟨bk, okk, none⟩) b.ks.length cap1, .slice (some ⟨bd, od, none⟩) b.ds.length cap2]) ∧ Hid (Below w.heap.size w wr)) (fun _ _ i _ => n - (intOf i).toNat)
  case atStart => exact ⟨1, by omega, nn1, rfl, World.ownsRow_nil _ _ _ _, World.ownsRow_nil _ _ _ _, (fun _ h => by cases h), B1.out, HB.out⟩
  case round =>
    clear HB B1
    obtain ⟨m, hm1, hm2, rfl, HO, HZ, HDj, B1, HB⟩ := hrel
    have hszB := HB.out.size
    have m0 : (0 : Int) ≤ (m : Int) := by omega
    obtain ⟨q, hq⟩ : ∃ q, m - 1 = q := ⟨_, rfl⟩
    rw [hq] at HO HZ
    have hq20 : q ≤ 20 := by omega
    have hfl : ((P.take q).filter F).length ≤ 20 := Nat.le_trans (List.length_filter_le _ _) (by rw [List.length_take]; omega)
    obtain ⟨fl, hfle⟩ : ∃ fl, ((P.take q).filter F).length = fl := ⟨_, rfl⟩
    rw [hfle] at HZ hfl
    have Hfle := Lib.hid hfle
    have Hq := Lib.hid hq
    clear hq hfle
    obtain ⟨Au, pu, rfl⟩ := own_form' HO.out
    obtain ⟨Az, pz, rfl⟩ := own_form' HZ.out
    by_cases hlt : m < n
    · obtain ⟨x, hx⟩ : ∃ x, l[m]? = some x := ⟨_, List.getElem?_eq_getElem (by have := Hnl.out; omega)⟩
      have hxi := belowB_iff.1 (Hall.out x (List.mem_of_getElem? hx))
      have HR := Lib.hid (HV.out.kept HB.out)
      have HLr := Lib.hid (HL.out.kept HB.out)
      have m1 : (m : Int) < (l.length : Int) := by have := Hnl.out; omega
      have m2 : (m : Int) < (n : Int) := by omega
      obtain ⟨y, hy⟩ : ∃ y, plainI b.n ky x ((m - 1 : Nat) : Int) = y := ⟨_, rfl⟩
      have hpk := HPat.out m x hm1 hlt hx
      rw [hy] at hpk
      have HPk := Lib.hid hpk
      clear hpk
      have Hx := Lib.hid hx
      have Hy := Lib.hid hy
      have hWm : IntKind.i64.wrap ((m : Int) - 1) = ((m - 1 : Nat) : Int) := by rw [show ((m - 1 : Nat) : Int) = (m : Int) - 1 by omega]; exact wrapK_in _ 1000 (by omega) (by omega)
      rw [Hq.out] at hWm Hy HPk
      have Hqm := Lib.hid (show m = q + 1 by have := Hq.out; omega)
      clear hx hy
      have N := B1.out
      go_wp2_with fail
      apply wp_region_by 18 [(Fact.eq _), (Fact.eq _), (Fact.eq _), (Fact.eq _), (Fact.eq _), (Fact.eq _), (Fact.eq _), (Fact.eq _), (Fact.eq _), (Fact.eq _), (Fact.eq _), (Fact.eq _), (Fact.eq _), (Fact.eq _), (Fact.eq _), (Fact.eq _), (Fact.eq (iv y)), (Fact.eq _)]
      case hm => kernel_rfl
      case hB => kernel_rfl
      case hA => (intro vs; simp only [List.take_succ_cons, List.take_zero, putAll, if_true, Act.put, List.setIfInBounds_toArray, List.set_cons_zero, List.set_cons_succ]; exact rfl)
      case hstep =>
        intro vs
        refine And.intro (fun w hw hd => ?_) ?_
        · refine ite_yes rfl ?_
          have c_N := fun i => (N.kept hw).cell i
          simp only [Gives]
          go_simp
          exact ⟨Below.refl _ _, rfl, fun h => by cases h⟩
        refine And.intro (fun w hw hd => ?_) ?_
        · refine ite_yes rfl ?_
          simp only [Gives]
          go_simp
          exact ⟨Below.refl _ _, rfl, fun h => by cases h⟩
        refine And.intro (fun w hw hd => ?_) ?_
        · have d1 := hd 1 (by decide) rfl
          change vs 1 = _ at d1
          refine ite_yes rfl ?_
          have c_N := fun i => (N.kept hw).cell i
          simp only [Gives]
          go_simp
          exact ⟨Below.refl _ _, rfl, fun h => by cases h⟩
        refine And.intro (fun w hw hd => ?_) ?_
        · refine ite_yes rfl ?_
          simp only [Gives]
          go_simp
          exact ⟨Below.refl _ _, rfl, fun h => by cases h⟩
        refine And.intro (fun w hw hd => ?_) ?_
        · have d3 := hd 3 (by decide) rfl
          change vs 3 = _ at d3
          refine ite_yes rfl ?_
          have c_N := fun i => (N.kept hw).cell i
          simp only [Gives]
          go_simp
          exact ⟨Below.refl _ _, rfl, fun h => by cases h⟩
        refine And.intro (fun w hw hd => ?_) ?_
        · refine ite_yes rfl ?_
          simp only [Gives]
          go_simp
          exact ⟨Below.refl _ _, rfl, fun h => by cases h⟩
        refine And.intro (fun w hw hd => ?_) ?_
        · have d4 := hd 4 (by decide) rfl
          change vs 4 = _ at d4
          have d5 := hd 5 (by decide) rfl
          change vs 5 = _ at d5
          refine ite_yes rfl ?_
          simp only [Gives]
          go_simp
          exact ⟨Below.refl _ _, rfl, fun h => by cases h⟩
        refine And.intro (fun w hw hd => ?_) ?_
        · have d6 := hd 6 (by decide) rfl
          change vs 6 = _ at d6
          refine ite_yes rfl ?_
          have c_N := fun i => (N.kept hw).cell i
          have q0 : w.cell? ⟨bl, ol + m, none⟩ = some (.int .i64 x) := by simpa using (HR.out.kept hw).cellAt Hx.out (j := 0) rfl
          have q1 : w.cell? ⟨bd, od + day, none⟩ = some (.int .i64 (j : Int)) := by simpa using (HLr.out.ds.kept hw).cellAt HJ.out (j := 0) rfl
          simp only [Gives]
          go_simp
          exact ⟨Below.refl _ _, rfl, fun h => by cases h⟩
        refine And.intro (fun w hw hd => ?_) ?_
        · have d2 := hd 2 (by decide) rfl
          change vs 2 = _ at d2
          have d7 := hd 7 (by decide) rfl
          change vs 7 = _ at d7
          refine ite_yes rfl ?_
          simp only [Gives]
          go_simp
          exact ⟨Below.refl _ _, rfl, fun h => by cases h⟩
        refine And.intro (fun w hw hd => ?_) ?_
        · have d8 := hd 8 (by decide) rfl
          change vs 8 = _ at d8
          refine ite_yes rfl ?_
          have c_N := fun i => (N.kept hw).cell i
          have q2 : w.cell? ⟨bk, okk + j * 3, none⟩ = some (iv ky.m) := (HLr.out.ks.kept hw).cellAt HKy.out (j := 0) rfl
          have q3 : w.cell? ⟨bk, okk + j * 3 + 1, none⟩ = some (iv ky.a) := (HLr.out.ks.kept hw).cellAt HKy.out (j := 1) rfl
          have q4 : w.cell? ⟨bk, okk + j * 3 + 2, none⟩ = some (iv ky.s) := (HLr.out.ks.kept hw).cellAt HKy.out (j := 2) rfl
          simp only [Gives]
          go_simp
          exact ⟨Below.refl _ _, rfl, fun h => by cases h⟩
        refine And.intro (fun w hw hd => ?_) ?_
        · refine ite_yes rfl ?_
          simp only [Gives]
          go_simp
          exact ⟨Below.refl _ _, rfl, fun h => by cases h⟩
        refine And.intro (fun w hw hd => ?_) ?_
        · refine ite_yes rfl ?_
          simp only [Gives]
          go_simp
          exact ⟨Below.refl _ _, rfl, fun h => by cases h⟩
        refine And.intro (fun w hw hd => ?_) ?_
        · have d10 := hd 10 (by decide) rfl
          change vs 10 = _ at d10
          have d11 := hd 11 (by decide) rfl
          change vs 11 = _ at d11
          refine ite_yes rfl ?_
          simp only [Gives]
          go_simp
          exact ⟨Below.refl _ _, rfl, fun h => by cases h⟩
        refine And.intro (fun w hw hd => ?_) ?_
        · have d12 := hd 12 (by decide) rfl
          change vs 12 = _ at d12
          refine ite_yes rfl ?_
          have c_N := fun i => (N.kept hw).cell i
          have q0 : w.cell? ⟨bl, ol + m, none⟩ = some (.int .i64 x) := by simpa using (HR.out.kept hw).cellAt Hx.out (j := 0) rfl
          have q1 : w.cell? ⟨bd, od + day, none⟩ = some (.int .i64 (j : Int)) := by simpa using (HLr.out.ds.kept hw).cellAt HJ.out (j := 0) rfl
          simp only [Gives]
          go_simp
          exact ⟨Below.refl _ _, rfl, fun h => by cases h⟩
        refine And.intro (fun w hw hd => ?_) ?_
        · refine ite_yes rfl ?_
          simp only [Gives]
          go_simp
          exact ⟨Below.refl _ _, rfl, fun h => by cases h⟩
        refine And.intro (fun w hw hd => ?_) ?_
        · have d14 := hd 14 (by decide) rfl
          change vs 14 = _ at d14
          refine ite_yes rfl ?_
          simp only [Gives]
          go_simp
          exact ⟨Below.refl _ _, rfl, fun h => by cases h⟩
        refine And.intro (fun w hw hd => ?_) ?_
        · have d0 := hd 0 (by decide) rfl
          change vs 0 = _ at d0
          have d9 := hd 9 (by decide) rfl
          change vs 9 = _ at d9
          have d13 := hd 13 (by decide) rfl
          change vs 13 = _ at d13
          have d15 := hd 15 (by decide) rfl
          change vs 15 = _ at d15
          refine ite_yes rfl ?_
          simp only [Gives]
          go_simp
          refine (RMeans_any b.n b.w _ _ ky x q w (by omega) Hsm.out Hun.out hxi (by omega)).mono ?_
          rintro e w7 ⟨rfl, hb⟩
          rw [Hy.out]
          exact ⟨_, rfl, hb, rfl, fun h => by cases h⟩
        refine And.intro (fun w hw hd => ?_) ?_
        · have d16 := hd 16 (by decide) rfl
          change vs 16 = _ at d16
          refine ite_yes rfl ?_
          simp only [Gives]
          go_simp
          exact ⟨Below.refl _ _, rfl, fun h => by cases h⟩
        exact trivial
      intro vs wt hw hd hne hlo
      have d0 := hd 0 (by decide)
      change vs 0 = _ at d0
      have d1 := hd 1 (by decide)
      change vs 1 = _ at d1
      have d2 := hd 2 (by decide)
      change vs 2 = _ at d2
      have d3 := hd 3 (by decide)
      change vs 3 = _ at d3
      have d4 := hd 4 (by decide)
      change vs 4 = _ at d4
      have d5 := hd 5 (by decide)
      change vs 5 = _ at d5
      have d6 := hd 6 (by decide)
      change vs 6 = _ at d6
      have d7 := hd 7 (by decide)
      change vs 7 = _ at d7
      have d8 := hd 8 (by decide)
      change vs 8 = _ at d8
      have d9 := hd 9 (by decide)
      change vs 9 = _ at d9
      have d10 := hd 10 (by decide)
      change vs 10 = _ at d10
      have d11 := hd 11 (by decide)
      change vs 11 = _ at d11
      have d12 := hd 12 (by decide)
      change vs 12 = _ at d12
      have d13 := hd 13 (by decide)
      change vs 13 = _ at d13
      have d14 := hd 14 (by decide)
      change vs 14 = _ at d14
      have d15 := hd 15 (by decide)
      change vs 15 = _ at d15
      have d16 := hd 16 (by decide)
      change vs 16 = _ at d16
      have d17 := hd 17 (by decide)
      change vs 17 = _ at d17
      simp only [d0, d1, d2, d3, d4, d5, d6, d7, d8, d9, d10, d11, d12, d13, d14, d15, d17, List.drop_succ_cons, List.drop_nil]
      have N := N.kept hw
      have c_N := fun i => N.cell i
      have f_N := fun i => N.free i
      clear hd hne hlo d0 d1 d2 d3 d4 d5 d6 d7 d8 d9 d10 d11 d12 d13 d14 d15 d17
      simp only [Nat.zero_add, Nat.reduceAdd, d16]
      clear d16
      have HO := Lib.hid (own_below HO.out hw)
      have HZ := Lib.hid (own_below HZ.out hw)
      have HB := Lib.hid (up_later HB.out hw)
      have hszw := HB.out.size
      clear hw c_N f_N
      go_upto_region 14 with (at_builtin; refine wpList_append_own_at _ rfl (.tmp 68) (.tmp 70) 23 rfl w.heap.size 3 i0 _ 1 8 Try.underlying23 hi0 hz0 hz1 hz2 rfl (by decide) _ _ _ rfl (HO.out.alloc _) ⟨wt.heap.size, 0, none⟩ 1 1 [iv y] rfl rfl (cell_one_new _ _ _) (by simp [Value.oneCell']) (by unfold maxLen; omega) (by omega) (by simp; omega) ?_; intro v' w3 hown' hgrow hnil hat)
      clear hnil
      obtain ⟨HZ2, HD2⟩ := two_append (HO.out.alloc (.cells #[iv y] 3)) (HZ.out.alloc (.cells #[iv y] 3)) HDj.out hgrow hat
      have HZ := Lib.hid HZ2
      have HDj := Lib.hid HD2
      have HB := Lib.hid (Below.grown (up_alloc HB.out (.cells #[iv y] 3)) hgrow (by simp; omega) fun g e => ((HO.out.alloc (.cells #[iv y] 3)).lt g e).1)
      have B1 := Lib.hid ((N.alloc (.cells #[iv y] 3)).grown hgrow (box_not_own (N.alloc (.cells #[iv y] 3)) (by decide) (HO.out.alloc (.cells #[iv y] 3))))
      have HO := Lib.hid hown'
      clear hown' hgrow hat HZ2 HD2 hszw N
      have hszw := HB.out.size
      have hP1 : (P.take m).map iv = (P.take q).map iv ++ [iv y] := by
        rw [Hqm.out, List.take_add_one, HPk.out]
        simp
      have HP1 := Lib.hid hP1
      clear hP1
      have N := B1.out
      have cN := fun i => N.cell i
      have fN := fun i => N.free i
      have lN := N.lt
      by_cases hyw : y < b.w
      · have d1 : decide (y < b.w) = true := decide_eq_true hyw
        have hfy : F y = true := by rw [HFF.out]; simp [nullB]; omega
        have HFy := Lib.hid hfy
        clear hfy
        obtain ⟨A8, p8, rfl⟩ := own_form' HO.out
        go_wp2_with (at_builtin; refine wpList_append_own_at _ rfl (.tmp 76) (.tmp 78) 23 rfl w.heap.size 3 i0 _ 1 8 Try.underlying23 hi0 hz0 hz1 hz2 rfl (by decide) _ _ _ rfl (HZ.out.alloc _) ⟨w3.heap.size, 0, none⟩ 1 1 [iv y] rfl rfl (cell_one_new _ _ _) (by simp [Value.oneCell']) (by unfold maxLen; omega) (by omega) (by simp; omega) ?_; intro v2 w4 hown2 hgrow2 hnil2 hat2; clear hnil2)
        go_roundw
        case rel =>
          obtain ⟨HO2, HD2⟩ := two_append (HZ.out.alloc (.cells #[iv y] 3)) (HO.out.alloc (.cells #[iv y] 3)) HDj.out.symm hgrow2 hat2
          refine ⟨m + 1, by omega, by omega, by go_num, ?_, ?_, HD2.symm, (B1.out.alloc (.cells #[iv y] 3)).grown hgrow2 (box_not_own (B1.out.alloc (.cells #[iv y] 3)) (by decide) (HZ.out.alloc (.cells #[iv y] 3))), Below.grown (up_alloc HB.out (.cells #[iv y] 3)) hgrow2 (by simp; omega) fun g e => ((HZ.out.alloc (.cells #[iv y] 3)).lt g e).1⟩
          · rw [Nat.add_sub_cancel, HP1.out, Hqm.out]
            exact HO2
          · have e : (P.take m).filter F = (P.take q).filter F ++ [y] := by
              rw [Hqm.out, List.take_add_one, HPk.out, List.filter_append]
              simp [HFy.out]
            rw [Nat.add_sub_cancel, e, List.length_append, List.map_append, Hfle.out]
            exact hown2
        case measure => simp [intOf]; omega
      · have d1 : decide (y < b.w) = false := decide_eq_false hyw
        have hfy : F y = false := by rw [HFF.out]; simp [nullB]; omega
        have HFy := Lib.hid hfy
        clear hfy
        go_wp2_with fail
        clear cN fN lN N
        go_roundw
        case rel =>
          refine ⟨m + 1, by omega, by omega, by go_num, ?_, ?_, HDj.out, B1.out, HB.out⟩
          · rw [Nat.add_sub_cancel, HP1.out, Hqm.out]
            exact HO.out
          · have e : (P.take m).filter F = (P.take q).filter F := by
              rw [Hqm.out, List.take_add_one, HPk.out, List.filter_append]
              simp [HFy.out]
            rw [Nat.add_sub_cancel, e, Hfle.out]
            exact HZ.out
        case measure => simp [intOf]; omega
    · have hmn : m = n := by omega
      have m2 : ¬ (m : Int) < (n : Int) := by omega
      have hPq : P.take q = P := List.take_of_length_le (by rw [HPl2.out]; have := Hq.out; omega)
      have ho := HO.out
      have hz := HZ.out
      rw [hPq] at ho hz
      have HO := Lib.hid (ints_of_own ho (by rw [HPl2.out]; have := Hq.out; omega) (by rw [HPl2.out]; omega))
      have HZ := Lib.hid (ints_of_own hz (by rw [← Hfle.out, hPq]) (by rw [hPq] at Hfle; have := Hfle.out; omega))
      clear ho hz hPq hmn
      go_wp2_with fail
      go_ret3
      exact ⟨_, _, rfl, HO.out, HZ.out, HB.out⟩
end Go.Proofs.Ytoenhkhfpbglhaa
