/-
  WALK of the reference's Code. Conditions: the book is valid, the text one of it.
-/
import Derived.Test.YtkhfkmfofhnmdaaEe
namespace Go.Proofs.Ytkhfkmfofhnmdaa
open Go.RowKit Go.Shelf
attribute [local go_sem] Oper.semAt_some

theorem own_one (w : World) (base : Nat) (z : Value) (hb : base ≤ w.heap.size) : (w.alloc (.cells #[z] 3)).ownsRow base 3 1 (.slice (some ⟨w.heap.size, 0, none⟩) 1 1) 1 [z] :=
  ⟨rfl, .inr ⟨w.heap.size, 1, #[z], rfl, hb, heap_alloc_new w _, Nat.le_refl _, by decide, rfl, rfl⟩⟩
theorem codes_at {n : Int} {k : Ky} {l : List Int} {i : Nat} {x : Int} (h : l[i]? = some x) : (codesI n k 0 l)[i]? = some (codeI n k x i) := by
  rw [codesI_eq]
  have := mapI_at (codeI n k) 0 l i x h
  rw [Nat.zero_add] at this
  exact this
/-- The key of a day, by its number. -/
theorem key_day {b : Bk} (hok : BookOK b) {day : Nat} (hd : day < b.ds.length) : ∃ (j : Nat) (ky : Ky), b.ds[day]? = some (j : Int) ∧ j < b.ks.length ∧ b.ks[j]? = some ky ∧ keyOf b day = ky ∧ smallK ky ∧ undoI ky.m b.n * ky.m % b.n = 1 := by
  have hx := List.getElem?_eq_getElem hd
  have h1 := hok.ds _ (List.getElem_mem hd)
  obtain ⟨j, hj⟩ : ∃ j : Nat, b.ds[day] = (j : Int) := ⟨(b.ds[day]).toNat, by omega⟩
  rw [hj] at hx h1
  have hjl : j < b.ks.length := by omega
  have hk := hok.ks _ (List.getElem_mem hjl)
  have hn := hok.n2
  refine ⟨j, b.ks[j], hx, hjl, List.getElem?_eq_getElem hjl, ?_, ⟨by omega, by omega, by omega⟩, undo_ok hok.pr hok.n1 hok.n2 hk.1 hk.2.1⟩
  unfold keyOf
  rw [List.getD_eq_getElem?_getD (l := b.ds), hx, Option.getD_some, Int.toNat_natCast, List.getD_eq_getElem?_getD, List.getElem?_eq_getElem hjl]
  rfl
set_option maxRecDepth 100000 in
set_option maxHeartbeats 1500000 in
theorem RCode_any (v1 v2 v : Value) (b : Bk) (day : Nat) (l : List Int) (w : World) (hok : BookOK b) (hL : BookAt w v1 v2 b) (hd : day < b.ds.length) (hl : IntsAt w v l) (hin : ∀ x ∈ l, 0 ≤ x ∧ x < b.n) (hl10 : l.length ≤ 10) :
    Calls Try.prog 27 #[.agg #[iv b.n, iv b.w, v1, v2], iv day, v] w fun r w' => ∃ u, r = .returned u ∧ IntsAt w' u (dispatchI b day l) ∧ Below w.heap.size w w' := by
  obtain ⟨i0, hi0, hz0, hz1, hz2⟩ := info_parts int_info
  obtain ⟨_, A1, cap1, rfl, _, _⟩ := hL.ks.form
  obtain ⟨_, A2, cap2, rfl, _, _⟩ := hL.ds.form
  obtain ⟨_, A4, cap4, rfl, _, _⟩ := hl.form
  obtain ⟨j, ky, hj, hjl, hky, hke, hsm, _⟩ := key_day hok hd
  obtain ⟨bd, od, rfl, _, _⟩ := hL.ds.at rfl hj
  obtain ⟨bk, ok, rfl, _, _⟩ := hL.ks.at rfl hky
  obtain ⟨C, hC⟩ : ∃ C, codesI b.n (keyOf b day) 0 l = C := ⟨_, rfl⟩
  have hCl : C.length = l.length := by rw [← hC, codesI_len]
  obtain ⟨ind, hind⟩ : ∃ ind, indI b day = ind := ⟨_, rfl⟩
  have hin0 := indI_in hok day
  rw [hind] at hin0
  have HD := Lib.hid (show dispatchI b day l = (ind :: C) ++ [checkI b.n (ind :: C)] by unfold dispatchI; rw [hind, hC])
  have HCi := Lib.hid (show ∀ x ∈ ind :: C, 0 ≤ x ∧ x ≤ 1000 from fun x hx => by
    have hn2 := hok.n2
    rcases List.mem_cons.1 hx with rfl | hx
    · omega
    · rw [← hC] at hx
      have := codesI_in (keyOf b day) (show 0 < b.n by have := hok.n1; omega) 0 l x hx
      omega)
  have HCat := Lib.hid (show ∀ (i : Nat) (x : Int), l[i]? = some x → C[i]? = some (codeI b.n ky x i) from fun i x h => by rw [← hC, hke]; exact codes_at h)
  have HL := Lib.hid hL
  have HV := Lib.hid hl
  have HI := Lib.hid hin
  have HOK := Lib.hid hok
  have HCl := Lib.hid hCl
  have HJ := Lib.hid hj
  have HKy := Lib.hid hky
  have Hind := Lib.hid hind
  have Hsm := Lib.hid hsm
  have hn1 := hok.n1
  have hn2 := hok.n2
  have hd2 := hok.d2
  clear hL hl hin hok hC hCl hj hky hke hsm hind
  go_enter Try.func27, Try.ntmps27
  go_wp2_with fail
  refine (RIndicator_any _ _ b day _ HOK.out (HL.out.kept (up_alloc up0 _)) hd).mono ?_
  rintro e w1 ⟨rfl, hb⟩
  rw [Hind.out]
  have HB := Lib.hid (up_later (up_alloc (up0 (w := w)) (.cells #[iv b.n, iv b.w, .slice (some ⟨bk, ok, none⟩) b.ks.length cap1, .slice (some ⟨bd, od, none⟩) b.ds.length cap2] 25)) hb)
  have B1 := Lib.hid ((Box.new (w := w) (t := 25) (cs := #[iv b.n, iv b.w, .slice (some ⟨bk, ok, none⟩) b.ks.length cap1, .slice (some ⟨bd, od, none⟩) b.ds.length cap2]) rfl).kept hb)
  clear hb
  have BB := B1.out
  have cB := fun i => BB.cell i
  have fB := fun i => BB.free i
  have lB := BB.lt
  have mB := Nat.lt_succ_of_lt lB
  go_wp2_with fail
  clear cB fB lB mB BB
  go_loopw [7, 8] (fun u i wr => ∃ k : Nat, k ≤ l.length ∧ i = .int .i64 k ∧ Hid (wr.ownsRow w.heap.size 3 1 u (k + 1) ((ind :: C.take k).map iv)) ∧ Hid (Box wr w.heap.size 25 #[iv b.n, iv b.w, .slice (some ⟨bk, ok, none⟩) b.ks.length cap1, .slice (some ⟨bd, od, none⟩) b.ds.length cap2]) ∧ Hid (Below w.heap.size w wr)) (fun _ i _ => l.length - (intOf i).toNat)
  case atStart => exact ⟨0, by omega, rfl, own_one w1 w.heap.size (iv ind) HB.out.size, B1.out.alloc _, up_alloc HB.out _⟩
  case round =>
    clear HB B1
    obtain ⟨k, hk, rfl, HO, B1, HB⟩ := hrel
    have hszB := HB.out.size
    have N := B1.out
    have k0 : (0 : Int) ≤ (k : Int) := by omega
    have j0 : (0 : Int) ≤ (j : Int) := by omega
    have d0 : (0 : Int) ≤ (day : Int) := by omega
    have d1 : (day : Int) < (b.ds.length : Int) := by omega
    have j1 : (j : Int) < (b.ks.length : Int) := by omega
    obtain ⟨Au, pu, rfl⟩ := own_form' HO.out
    by_cases hlt : k < l.length
    · obtain ⟨x, hx⟩ : ∃ x, l[k]? = some x := ⟨_, List.getElem?_eq_getElem hlt⟩
      have HR := Lib.hid (HV.out.kept HB.out)
      have HLr := Lib.hid (HL.out.kept HB.out)
      obtain ⟨b1, o1, rfl, _, _⟩ := HR.out.at rfl hx
      have k1 : (k : Int) < (l.length : Int) := by omega
      have Hx := Lib.hid hx
      have hxi := HI.out x (List.mem_of_getElem? hx)
      obtain ⟨c, hc⟩ : ∃ c, codeI b.n ky x k = c := ⟨_, rfl⟩
      have Hc := Lib.hid hc
      have HCk := Lib.hid (HCat.out k x hx)
      clear hx hc
      go_wp2_with fail
      apply wp_region_by 18 [(Fact.eq _), (Fact.eq _), (Fact.eq _), (Fact.eq _), (Fact.eq _), (Fact.eq _), (Fact.eq _), (Fact.eq _), (Fact.eq _), (Fact.eq _), (Fact.eq _), (Fact.eq _), (Fact.eq _), (Fact.eq _), (Fact.eq _), (Fact.eq _), (Fact.eq (iv c)), (Fact.sl 1 3 #[iv c])]
      case hm => kernel_rfl
      case hB => kernel_rfl
      case hA => (intro vs; simp only [List.take_succ_cons, List.take_zero, putAll, if_true, Act.put, List.setIfInBounds_toArray, List.set_cons_zero, List.set_cons_succ]; exact rfl)
      case hstep =>
        intro vs
        refine And.intro (fun w hw hd => ?_) ?_
        · refine ite_yes rfl ?_
          simp only [Gives]
          go_simp
          exact ⟨Below.refl _ _, rfl, fun h => by cases h⟩
        refine And.intro (fun w hw hd => ?_) ?_
        · refine ite_yes rfl ?_
          have c_N := fun i => (N.kept hw).cell i
          simp only [Gives]
          go_simp
          exact ⟨Below.refl _ _, rfl, fun h => by cases h⟩
        refine And.intro (fun w hw hd => ?_) ?_
        · refine ite_yes rfl ?_
          simp only [Gives]
          go_simp
          exact ⟨Below.refl _ _, rfl, fun h => by cases h⟩
        refine And.intro (fun w hw hd => ?_) ?_
        · have d2 := hd 2 (by decide) rfl
          change vs 2 = _ at d2
          refine ite_yes rfl ?_
          have c_N := fun i => (N.kept hw).cell i
          simp only [Gives]
          go_simp
          exact ⟨Below.refl _ _, rfl, fun h => by cases h⟩
        refine And.intro (fun w hw hd => ?_) ?_
        · refine ite_yes rfl ?_
          simp only [Gives]
          go_simp
          exact ⟨Below.refl _ _, rfl, fun h => by cases h⟩
        refine And.intro (fun w hw hd => ?_) ?_
        · have d4 := hd 4 (by decide) rfl
          change vs 4 = _ at d4
          refine ite_yes rfl ?_
          have c_N := fun i => (N.kept hw).cell i
          simp only [Gives]
          go_simp
          exact ⟨Below.refl _ _, rfl, fun h => by cases h⟩
        refine And.intro (fun w hw hd => ?_) ?_
        · refine ite_yes rfl ?_
          simp only [Gives]
          go_simp
          exact ⟨Below.refl _ _, rfl, fun h => by cases h⟩
        refine And.intro (fun w hw hd => ?_) ?_
        · have d5 := hd 5 (by decide) rfl
          change vs 5 = _ at d5
          have d6 := hd 6 (by decide) rfl
          change vs 6 = _ at d6
          refine ite_yes rfl ?_
          simp only [Gives]
          go_simp
          exact ⟨Below.refl _ _, rfl, fun h => by cases h⟩
        refine And.intro (fun w hw hd => ?_) ?_
        · have d7 := hd 7 (by decide) rfl
          change vs 7 = _ at d7
          refine ite_yes rfl ?_
          have c_N := fun i => (N.kept hw).cell i
          have q0 : w.cell? ⟨b1, o1 + k, none⟩ = some (.int .i64 x) := by simpa using (HR.out.kept hw).cellAt Hx.out (j := 0) rfl
          have q1 : w.cell? ⟨bd, od + day, none⟩ = some (.int .i64 (j : Int)) := by simpa using (HLr.out.ds.kept hw).cellAt HJ.out (j := 0) rfl
          simp only [Gives]
          go_simp
          exact ⟨Below.refl _ _, rfl, fun h => by cases h⟩
        refine And.intro (fun w hw hd => ?_) ?_
        · have d3 := hd 3 (by decide) rfl
          change vs 3 = _ at d3
          have d8 := hd 8 (by decide) rfl
          change vs 8 = _ at d8
          refine ite_yes rfl ?_
          simp only [Gives]
          go_simp
          exact ⟨Below.refl _ _, rfl, fun h => by cases h⟩
        refine And.intro (fun w hw hd => ?_) ?_
        · have d9 := hd 9 (by decide) rfl
          change vs 9 = _ at d9
          refine ite_yes rfl ?_
          have c_N := fun i => (N.kept hw).cell i
          have q2 : w.cell? ⟨bk, ok + j * 3, none⟩ = some (iv ky.m) := (HLr.out.ks.kept hw).cellAt HKy.out (j := 0) rfl
          have q3 : w.cell? ⟨bk, ok + j * 3 + 1, none⟩ = some (iv ky.a) := (HLr.out.ks.kept hw).cellAt HKy.out (j := 1) rfl
          have q4 : w.cell? ⟨bk, ok + j * 3 + 2, none⟩ = some (iv ky.s) := (HLr.out.ks.kept hw).cellAt HKy.out (j := 2) rfl
          simp only [Gives]
          go_simp
          exact ⟨Below.refl _ _, rfl, fun h => by cases h⟩
        refine And.intro (fun w hw hd => ?_) ?_
        · refine ite_yes rfl ?_
          simp only [Gives]
          go_simp
          exact ⟨Below.refl _ _, rfl, fun h => by cases h⟩
        refine And.intro (fun w hw hd => ?_) ?_
        · refine ite_yes rfl ?_
          simp only [Gives]
          go_simp
          exact ⟨Below.refl _ _, rfl, fun h => by cases h⟩
        refine And.intro (fun w hw hd => ?_) ?_
        · have d11 := hd 11 (by decide) rfl
          change vs 11 = _ at d11
          have d12 := hd 12 (by decide) rfl
          change vs 12 = _ at d12
          refine ite_yes rfl ?_
          simp only [Gives]
          go_simp
          exact ⟨Below.refl _ _, rfl, fun h => by cases h⟩
        refine And.intro (fun w hw hd => ?_) ?_
        · have d13 := hd 13 (by decide) rfl
          change vs 13 = _ at d13
          refine ite_yes rfl ?_
          have c_N := fun i => (N.kept hw).cell i
          have q0 : w.cell? ⟨b1, o1 + k, none⟩ = some (.int .i64 x) := by simpa using (HR.out.kept hw).cellAt Hx.out (j := 0) rfl
          have q1 : w.cell? ⟨bd, od + day, none⟩ = some (.int .i64 (j : Int)) := by simpa using (HLr.out.ds.kept hw).cellAt HJ.out (j := 0) rfl
          simp only [Gives]
          go_simp
          exact ⟨Below.refl _ _, rfl, fun h => by cases h⟩
        refine And.intro (fun w hw hd => ?_) ?_
        · refine ite_yes rfl ?_
          simp only [Gives]
          go_simp
          exact ⟨Below.refl _ _, rfl, fun h => by cases h⟩
        refine And.intro (fun w hw hd => ?_) ?_
        · have d1 := hd 1 (by decide) rfl
          change vs 1 = _ at d1
          have d10 := hd 10 (by decide) rfl
          change vs 10 = _ at d10
          have d14 := hd 14 (by decide) rfl
          change vs 14 = _ at d14
          have d15 := hd 15 (by decide) rfl
          change vs 15 = _ at d15
          refine ite_yes rfl ?_
          simp only [Gives]
          go_simp
          refine (RCodeOf_any b.n b.w _ _ ky x k w (by omega) Hsm.out (by omega) (by omega)).mono ?_
          rintro e w7 ⟨rfl, hb⟩
          rw [Hc.out]
          exact ⟨_, rfl, hb, rfl, fun h => by cases h⟩
        refine And.intro (fun w hw hd => ?_) ?_
        · have d16 := hd 16 (by decide) rfl
          change vs 16 = _ at d16
          refine ite_yes rfl ?_
          simp only [Gives]
          go_simp
          exact ⟨(Below.refl _ _).alloc (Nat.le_refl _) _, ⟨_, rfl, Box.new rfl⟩, fun h => by cases h⟩
        exact trivial
      intro vs wt hw hd hne hlo
      have d0 := hd 0 (by decide)
      change vs 0 = _ at d0
      have d1 := hd 1 (by decide)
      change vs 1 = _ at d1
      have d2 := hd 2 (by decide)
      change vs 2 = _ at d2
      have d3 := hd 3 (by decide)
      change vs 3 = _ at d3
      have d4 := hd 4 (by decide)
      change vs 4 = _ at d4
      have d5 := hd 5 (by decide)
      change vs 5 = _ at d5
      have d6 := hd 6 (by decide)
      change vs 6 = _ at d6
      have d7 := hd 7 (by decide)
      change vs 7 = _ at d7
      have d8 := hd 8 (by decide)
      change vs 8 = _ at d8
      have d9 := hd 9 (by decide)
      change vs 9 = _ at d9
      have d10 := hd 10 (by decide)
      change vs 10 = _ at d10
      have d11 := hd 11 (by decide)
      change vs 11 = _ at d11
      have d12 := hd 12 (by decide)
      change vs 12 = _ at d12
      have d13 := hd 13 (by decide)
      change vs 13 = _ at d13
      have d14 := hd 14 (by decide)
      change vs 14 = _ at d14
      have d15 := hd 15 (by decide)
      change vs 15 = _ at d15
      have d16 := hd 16 (by decide)
      change vs 16 = _ at d16
      have d17 := hd 17 (by decide)
      obtain ⟨m8, d17, M8⟩ := d17
      simp only [d0, d1, d2, d3, d4, d5, d6, d7, d8, d9, d10, d11, d12, d13, d14, d15, List.drop_succ_cons, List.drop_zero]
      have N := N.kept hw
      have c_N := fun i => N.cell i
      have f_N := fun i => N.free i
      clear hd hne hlo d0 d1 d2 d3 d4 d5 d6 d7 d8 d9 d10 d11 d12 d13 d14 d15
      simp only [Nat.zero_add, Nat.reduceAdd, d16, d17]
      have HO := Lib.hid (own_below HO.out hw)
      have hszw := hw.size
      go_wp2_with (at_builtin; refine wpList_append_own_at _ rfl (.tmp 19) (.tmp 36) 23 rfl w.heap.size 3 i0 _ 1 8 Try.underlying23 hi0 hz0 hz1 hz2 rfl (by decide) _ _ _ rfl HO.out ⟨m8, 0, none⟩ 1 1 [iv c] rfl rfl (box_newsM M8) (by simp [Value.oneCell']) (by unfold maxLen; omega) (by omega) (by omega) ?_; intro v' w2 hown' hgrow _ _)
      go_roundw
      case rel =>
        refine ⟨k + 1, by omega, by go_num, ?_, N.grown hgrow (box_not_own N (by decide) HO.out), (up_later HB.out hw).grown hgrow (by omega) fun g e => (HO.out.lt g e).1⟩
        have e : (ind :: C.take (k + 1)).map iv = (ind :: C.take k).map iv ++ [iv c] := by
          rw [List.take_add_one, HCk.out, Hc.out]
          simp
        rw [e]
        exact hown'
      case measure => simp [intOf]; omega
    · have hk' : k = l.length := by omega
      subst hk'
      have ho := HO.out
      rw [← HCl.out, List.take_length] at ho
      have HO := Lib.hid ho
      have HI2 := Lib.hid (ints_of_own HO.out (l := ind :: C) (by simp) (by have := HCl.out; simp; omega))
      clear ho
      have BB := B1.out
      have cB := fun i => BB.cell i
      have fB := fun i => BB.free i
      have lB := BB.lt
      have mB := Nat.lt_succ_of_lt lB
      go_wp2_with fail
      clear cB fB lB mB BB
      refine (RCheck_any b.n b.w _ _ _ (ind :: C) _ (by omega) (by rw [← HCl.out]; exact HI2.out) HCi.out (by have := HCl.out; simp; omega)).mono ?_
      rintro e w2 ⟨rfl, hb⟩
      obtain ⟨ch, hch⟩ : ∃ ch, checkI b.n (ind :: C) = ch := ⟨_, rfl⟩
      rw [hch]
      have Hch := Lib.hid hch
      have HB := Lib.hid (up_later HB.out hb)
      have HO := Lib.hid (own_below HO.out hb)
      have hsz2 := HB.out.size
      have hcl := HCl.out
      clear hch hb B1 N
      rw [hcl] at HO
      clear hcl
      go_wp2_with (at_builtin; refine wpList_append_own_at _ rfl (.tmp 38) (.tmp 42) 23 rfl w.heap.size 3 i0 _ 1 8 Try.underlying23 hi0 hz0 hz1 hz2 rfl (by decide) _ _ _ rfl (HO.out.alloc _) ⟨w2.heap.size, 0, none⟩ 1 1 [iv ch] rfl rfl (cell_one_new _ _ _) (by simp [Value.oneCell']) (by unfold maxLen; omega) (by omega) (by simp; omega) ?_; intro v' w3 hown' hgrow _ _)
      go_ret
      refine ⟨v', by simp [go_sem], ?_, (up_alloc HB.out _).grown hgrow (up_alloc HB.out _).size fun k hk => (HO.out.lt k hk).1⟩
      rw [HD.out, Hch.out]
      have e : ((ind :: C) ++ [ch]).map iv = (ind :: C).map iv ++ [iv ch] := by rw [List.map_append]; rfl
      rw [← e] at hown'
      exact ints_of_own hown' (by have := HCl.out; simp; omega) (by have := HCl.out; simp; omega)
end Go.Proofs.Ytkhfkmfofhnmdaa
